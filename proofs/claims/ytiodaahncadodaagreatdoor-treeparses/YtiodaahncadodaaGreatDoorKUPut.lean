/- The contracts of slices.Clone at []byte, and of utf.Put. -/
import Derived.Test.YtiodaahncadodaaGreatDoorKUText
import Derived.Laws.Cover3
set_option maxRecDepth 100000
set_option maxHeartbeats 1000000
namespace Go.Proofs.YtiodaahncadodaaGreatDoor
open Go.RowKit
theorem zaK {w : World} {a : Addr} {v : Value} (h : w.cell? a = some v) : a.block < w.heap.size:=by
 by_cases hs : a.block < w.heap.size
 ·exact hs
 ·unfold World.cell? at h
  rw [Array.getElem?_eq_none (by omega)] at h
  simp at h
theorem zlw {w : World} {a : Addr} {v : Value} {o : Obj} (h : w.cell? a = some v) : (w.alloc o).cell? a = some v:=by
 rw [World.cell?_alloc_lt _ _ _ (zaK h),h]
def zaZ (w : World) (v : Value) (xs : List Value) : Prop :=
 (∃ a c,v = .slice a 0 c ∧ xs = []) ∨ ∃ b o c,v = .slice (some ⟨b,o,none⟩) xs.length c ∧ xs.length ≤ c ∧ ∀ (j : Nat) x,xs[j]? = some x → w.cell? ⟨b,o + j,none⟩ = some x
theorem zaZ.below {w w' : World} {v : Value} {xs : List Value} (h : zaZ w v xs) (hb : Below w.heap.size w w') : zaZ w' v xs:=by
 rcases h with h | ⟨b,o,c,rfl,hc,hr⟩
 ·exact .inl h
 ·exact .inr ⟨b,o,c,rfl,hc,fun j t hj=>(hb.cell (p:=⟨b,o + j,none⟩) (zaK (hr j t hj))).trans (hr j t hj)⟩
theorem zaZ.nil (w : World) : zaZ w (.slice none 0 0) []:=.inl ⟨_,_,rfl,rfl⟩
theorem zlx {w : World} {B e : Nat} {v : Value} {xs : List Value} (h : w.ownsRow B e 1 v xs.length xs) : zaZ w v xs:=by
 have h0:=h
 rcases h.2 with ⟨rfl,hz⟩ | ⟨g,cap,cur,rfl,_,hg,hc,_,hcs,ht⟩
 ·exact .inl ⟨_,_,rfl,List.eq_nil_of_length_eq_zero hz⟩
 ·refine .inr ⟨g,0,cap,rfl,hc,fun j x hj=>?_⟩
  have hlt : j < xs.length:=(List.getElem?_eq_some_iff.1 hj).1
  have:=World.ownsRow.cellAt (w:=w) (base:=B) (e:=e) (size:=1) (g:=g) (cap:=cap) (n:=xs.length) (xs:=xs) h0 j (by omega)
  rw [Nat.zero_add,this,hj]
theorem zan (l : List UInt8) : (zaz l).length = l.length:=by simp [zaz]
theorem zao.reads {w : World} {B : Nat} {v : Value} {l : List UInt8} (h : zao w B v l) : zaZ w v (zaz l):=by
 apply zlx (B:=B) (e:=5)
 rw [zan]
 exact h
theorem zdi (l : List UInt8) : ∀ u ∈ zaz l,u.oneCell' = true:=by
 intro u hu
 obtain ⟨c,_,rfl⟩:=List.mem_map.1 hu
 rfl
theorem zbt (b o j : Nat) : (⟨b,o,none⟩ : Addr).add j = ⟨b,o + j,none⟩:=by
 unfold Addr.add
 simp
theorem zaf (w : World) (o : Obj) : (w.alloc o).heap[w.heap.size]? = some o:=by
 show (w.heap.push o)[w.heap.size]? = _
 simp
theorem zq2 (w : World) (a : Option Addr) (n c : Nat) : (binOp .eql 78 (.slice a n c) (.slice none 0 0)).run Tryz.prog w = .ok (.bool a.isNone) w:=by
 simp only [binOp]
 simp [run_equal_slice_nil w 78 5 a n c Tryz.underlying78]
theorem znl (v : Value) (l : List UInt8) (w : World) (hz : l.length ≤ 1000000000) (hv : zaZ w v (zaz l)) :
  Calls Tryz.prog 179 #[v] w fun e w'=>∃ v',e = .returned v' ∧ zao w' w.heap.size v' l ∧ Below w.heap.size w w':=by
 obtain ⟨i0,hi,hz0,hz1,hz2⟩:=info_parts infoByte
 obtain ⟨ad,c,rfl⟩ : ∃ ad c,v = .slice ad l.length c:=by
  rcases hv with ⟨a,c,rfl,h0⟩ | ⟨b,o,c,rfl,_,_⟩
  ·exact ⟨a,c,by rw [← zan,h0];rfl⟩
  ·exact ⟨_,c,by rw [zan]⟩
 cases ad with
 | none =>
  have hl : l = []:=by
   rcases hv with ⟨a,c,h1,h0⟩ | ⟨b,o,c,h1,_,_⟩
   ·exact List.eq_nil_of_length_eq_zero (by rw [← zan,h0];rfl)
   ·cases h1
  subst hl
  have hnil:=zq2
  go_enter Tryz.func179,Tryz.ntmps179
  go_wp2
  go_ret
  exact ⟨_,rfl,zao.nil _ _,Below.refl _ _⟩
 | some ad =>
  have hr : ∀ j u,(zaz l)[j]? = some u → w.cell? (ad.add j) = some u:=by
   intro j u hj
   rcases hv with ⟨a,c,h1,h0⟩ | ⟨b,o,c,h1,_,h3⟩
   ·rw [h0] at hj;simp at hj
   ·rw [zan] at h1
    cases h1
    rw [zbt]
    exact h3 j u hj
  clear hv
  have hnil:=zq2
  go_enter Tryz.func179,Tryz.ntmps179
  have hown : (w.alloc (.cells #[] 5)).ownsRow w.heap.size 5 1 (.slice (some ⟨w.heap.size,0,none⟩) 0 0) 0 []:=⟨rfl,.inr ⟨w.heap.size,0,#[],rfl,Nat.le_refl _,zaf w _,Nat.le_refl _,Nat.zero_le _,rfl,rfl⟩⟩
  go_wp2_with (at_builtin;refine wpList_append_own _ rfl _ _ 78 rfl w.heap.size 5 i0 (.int .u8 0) 1 1 Tryz.underlying78 hi hz0 hz1 hz2 rfl (by decide) _ _ _ rfl hown ad l.length c (zaz l) rfl (by rw [zan,Nat.mul_one]) (fun j u hj=>zlw (hr j u hj)) (zdi l) (by unfold maxLen;omega) (by omega) (by simp) ?_)
  intro v' w2 hown' hgrow _
  go_wp2
  go_ret
  refine ⟨_,rfl,?_,((Below.refl _ w).alloc (Nat.le_refl _) _).grown hgrow (by simp) (fun k hk=>?_)⟩
  ·unfold zao
   simpa using hown'
  ·cases hk
   exact Nat.le_refl _
def zc6 (cs : List Int) : List Value:=cs.map fun c=>.int .i32 c
theorem zaV (cs : List Int) : (zc6 cs).length = cs.length:=by simp [zc6]
def inR (c : Int) : Prop:=-2147483648 ≤ c ∧ c ≤ 2147483647
def zgk (cs : List Int) : List UInt8:=cs.flatMap Lib.encodeRune
theorem zhu (cs : List Int) : (zgk cs).length ≤ 4 * cs.length:=by
 induction cs with
 | nil=>exact Nat.le_refl _
 | cons c cs ih =>
  unfold zgk at *
  rw [List.flatMap_cons,List.length_append,List.length_cons]
  have:=(Utf.zrn c).1
  omega
theorem zd6 (cs : List Int) (k : Nat) (c : Int) (h : cs[k]? = some c) : zgk (cs.take (k + 1)) = zgk (cs.take k) ++ Lib.encodeRune c:=by
 obtain ⟨hlt,rfl⟩:=List.getElem?_eq_some_iff.1 h
 unfold zgk
 rw [List.take_succ_eq_append_getElem hlt,List.flatMap_append]
 simp
theorem znm (l : List UInt8) (c : Int) : zaz l ++ Lib.runeCells c = zaz (l ++ Lib.encodeRune c):=by
 rw [← Lib.byteCells_encodeRune,zb0,zb0,Lib.byteCells_append]
theorem zrR (v u : Value) (l : List UInt8) (cs : List Int) (w : World) (hz : l.length ≤ 1000000000) (hy : cs.length ≤ 1000000000) (hv : zaZ w v (zaz l)) (hu : zaZ w u (zc6 cs)) (hR : ∀ c ∈ cs,inR c) :
  Calls Tryz.prog 151 #[v,u] w fun e w'=>∃ v',e = .returned v' ∧ zao w' w.heap.size v' (l ++ zgk cs) ∧ Below w.heap.size w w':=by
 obtain ⟨ad,cp,rfl⟩ : ∃ ad cp,u = .slice ad cs.length cp:=by
  rcases hu with ⟨a,c,rfl,h0⟩ | ⟨b,o,c,rfl,_,_⟩
  ·exact ⟨a,c,by rw [← zaV,h0];rfl⟩
  ·exact ⟨_,c,by rw [zaV]⟩
 have HU : Hid (zaZ w (.slice ad cs.length cp) (zc6 cs)):=hu
 clear hu
 go_enter Tryz.func151,Tryz.ntmps151
 go_wp2_with (go_at_call 179;refine (znl v l _ hz hv).mono ?_;rintro e w1 ⟨v1,rfl,ho1,hb1⟩)
 go_loopw [5,12] (fun x i wr=>∃ k : Nat,k ≤ cs.length ∧ i = .int .i64 k ∧ zao wr w.heap.size x (l ++ zgk (cs.take k)) ∧ Below w.heap.size w wr) (fun _ i _=>cs.length - (intOf i).toNat)
 case atStart=>exact ⟨0,Nat.zero_le _,rfl,by simpa [zgk] using ho1,hb1⟩
 case round =>
  obtain ⟨k,hk,rfl,ho,hbw⟩:=hrel
  by_cases hlt : k < cs.length
  ·obtain ⟨c,hc⟩ : ∃ c,cs[k]? = some c:=⟨_,List.getElem?_eq_getElem hlt⟩
   have hin:=hR c (List.mem_of_getElem? hc)
   unfold inR at hin
   have hpl:=zhu (cs.take k)
   rw [List.length_take] at hpl
   obtain ⟨b,o,rfl,hcp,hcell⟩ : ∃ b o,ad = some ⟨b,o,none⟩ ∧ cs.length ≤ cp ∧ w.cell? ⟨b,o + k,none⟩ = some (.int .i32 c):=by
    rcases HU.out with ⟨a,c',h1,h0⟩ | ⟨b,o,c',h1,h2,h3⟩
    ·have:=congrArg List.length h0
     rw [zaV,List.length_nil] at this
     omega
    ·rw [zaV] at h1 h2
     cases h1
     refine ⟨b,o,rfl,h2,h3 k _ ?_⟩
     unfold zc6
     rw [List.getElem?_map,hc]
     rfl
   have hcell2 : wr.cell? ⟨b,o + k,none⟩ = some (.int .i32 c):=(hbw.cell (p:=⟨b,o + k,none⟩) (zaK hcell)).trans hcell
   have HC : Hid (cs[k]? = some c):=hc
   have hsz:=hbw.size
   clear hc hcell
   go_wp2_with (go_at_call 144;refine (Tryz.utf8_AppendRune_plain w.heap.size _ _ _ c (by omega) (by omega) _ ho (by rw [List.length_append];omega) (by omega)).mono ?_;rintro e w2 ⟨v2,rfl,ho2,o2,hg2⟩)
   have hb2 : Below w.heap.size w w2:=(hbw.alloc (by omega) _).grown hg2 (by simp;omega) (fun k hk=>(World.ownsRow.lt ho k hk).1)
   go_roundw
   case rel =>
    refine ⟨k + 1,by omega,by go_num,?_,hb2⟩
    rw [znm,List.append_assoc,← zd6 cs k c HC.out] at ho2
    unfold zao
    rw [show (l ++ zgk (cs.take (k + 1))).length = (l ++ zgk (cs.take k)).length + (Lib.runeCells c).length from by
     rw [zd6 cs k c HC.out,← Lib.byteCells_encodeRune,Lib.byteCells_length]
     simp only [List.length_append]
     omega]
    exact ho2
   case measure=>simp [intOf];omega
  ·have hkk : k = cs.length:=by omega
   have ho2 : Hid (zao wr w.heap.size u5 (l ++ zgk cs)):=by
    have:=ho
    rw [hkk,List.take_length] at this
    exact this
   go_wp2
   go_ret
   exact ⟨_,rfl,ho2.out,hbw⟩
end Go.Proofs.YtiodaahncadodaaGreatDoor
