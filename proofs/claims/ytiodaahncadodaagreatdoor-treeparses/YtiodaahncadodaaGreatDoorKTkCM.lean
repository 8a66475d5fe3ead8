/- Texts laid as one. -/
import Derived.Test.YtiodaahncadodaaGreatDoorKTkB
import Derived.Test.YtiodaahncadodaaGreatDoorKGround
import Derived.Test.YtiodaahncadodaaGreatDoorKUPut
import Derived.Test.YtiodaahncadodaaGreatDoorKRfGK
import Derived.Deep.MidRow
import Derived.Deep.WholeRow
import Derived.Deep.RegionWith
set_option maxRecDepth 100000
set_option maxHeartbeats 1000000
set_option linter.unusedVariables false
set_option linter.unusedSimpArgs false
namespace Go.Proofs.YtiodaahncadodaaGreatDoor
open Go.RowKit
abbrev Pr:=List UInt8 × List UInt8
def zaF (ps : List Pr) : List Value:=ps.flatMap fun p=>[zcf p.1,zcf p.2]
theorem zgu (ps : List Pr) (p : Pr) : zaF (ps ++ [p]) = zaF ps ++ [zcf p.1,zcf p.2]:=by simp [zaF]
theorem zb4 : ∀ ps : List Pr,(zaF ps).length = ps.length * 2
 | []=>rfl
 | p :: ps=>by
  have:=zb4 ps
  simp only [zaF,List.flatMap_cons,List.length_append,List.length_cons,List.length_nil] at this ⊢
  omega
theorem zc9 : ∀ (ps : List Pr) (j : Nat) (p : Pr),ps[j]? = some p → (zaF ps)[j * 2]? = some (zcf p.1) ∧ (zaF ps)[j * 2 + 1]? = some (zcf p.2)
 | [],j,p,h=>by simp at h
 | q :: ps,0,p,h=>by
  simp at h
  subst h
  exact ⟨rfl,rfl⟩
 | q :: ps,j + 1,p,h=>by
  have:=zc9 ps j p (by simpa using h)
  have e : zaF (q :: ps) = zcf q.1 :: zcf q.2 :: zaF ps:=rfl
  rw [e,show (j + 1) * 2 = j * 2 + 1 + 1 from by omega]
  simpa using this
def zbd (t : TypeId) (w : World) (B : Nat) (v : Value) (ps : List Pr) : Prop:=w.ownsRow B t 2 v ps.length (zaF ps)
theorem zbd.nil (t : TypeId) (w : World) (B : Nat) : zbd t w B (.slice none 0 0) []:=World.ownsRow_nil _ _ _ _
theorem zbd.of {t : TypeId} {w : World} {B : Nat} {v x y : Value} {ps qs : List Pr} {p : Pr} (h : qs = ps ++ [p]) (hx : zcf p.1 = x) (hy : zcf p.2 = y) (ho : w.ownsRow B t 2 v (ps.length + 1) (zaF ps ++ [x,y])) : zbd t w B v qs:=by
 subst h;subst hx;subst hy
 unfold zbd
 rw [zgu,List.length_append]
 exact ho
def zar (w : World) (v : Value) (ps : List Pr) : Prop :=
 (∃ a c,v = .slice a 0 c ∧ ps = []) ∨ ∃ b o c,v = .slice (some ⟨b,o,none⟩) ps.length c ∧ ps.length ≤ c ∧ ∀ (j : Nat) p,ps[j]? = some p → w.cell? ⟨b,o + j * 2,none⟩ = some (zcf p.1) ∧ w.cell? ⟨b,o + j * 2 + 1,none⟩ = some (zcf p.2)
theorem zar.form {w : World} {v : Value} {ps : List Pr} (h : zar w v ps) : ∃ a c,v = .slice a ps.length c:=by
 rcases h with ⟨a,c,rfl,rfl⟩ | ⟨b,o,c,rfl,_,_⟩
 ·exact ⟨_,_,rfl⟩
 ·exact ⟨_,_,rfl⟩
theorem zar.at {w : World} {a : Option Addr} {n c : Nat} {ps : List Pr} {k : Nat} {p : Pr} (h : zar w (.slice a n c) ps) (hp : ps[k]? = some p) :
  ∃ b o,a = some ⟨b,o,none⟩ ∧ ps.length ≤ c ∧ b < w.heap.size ∧ w.cell? ⟨b,o + k * 2,none⟩ = some (.string (str p.1)) ∧ w.cell? ⟨b,o + k * 2 + 1,none⟩ = some (.string (str p.2)):=by
 rcases h with ⟨a,c,_,rfl⟩ | ⟨b,o,c,h1,h2,h3⟩
 ·simp at hp
 ·cases h1
  exact ⟨b,o,rfl,h2,zaK (h3 k p hp).1,h3 k p hp⟩
theorem zar.below {w w' : World} {v : Value} {ps : List Pr} (h : zar w v ps) (hb : Below w.heap.size w w') : zar w' v ps:=by
 rcases h with h | ⟨b,o,c,rfl,hc,hr⟩
 ·exact .inl h
 ·refine .inr ⟨b,o,c,rfl,hc,fun j p hj=>?_⟩
  have:=hr j p hj
  exact ⟨(hb.cell (p:=⟨b,o + j * 2,none⟩) (zaK this.1)).trans this.1,(hb.cell (p:=⟨b,o + j * 2 + 1,none⟩) (zaK this.2)).trans this.2⟩
theorem zbd.reads {t : TypeId} {w : World} {B : Nat} {v : Value} {ps : List Pr} (h : zbd t w B v ps) : zar w v ps:=by
 rcases h.2 with ⟨rfl,h0⟩ | ⟨g,cap,cur,rfl,_,hg,hc,_,hcs,ht⟩
 ·exact .inl ⟨_,_,rfl,List.eq_nil_of_length_eq_zero h0⟩
 ·refine .inr ⟨g,0,cap,rfl,hc,fun j p hj=>?_⟩
  have hlt : j < ps.length:=(List.getElem?_eq_some_iff.1 hj).1
  have e:=zc9 ps j p hj
  have e1:=World.ownsRow.cellAt (w:=w) (base:=B) (e:=t) (size:=2) (g:=g) (cap:=cap) (n:=ps.length) (xs:=zaF ps) h (j * 2) (by omega)
  have e2:=World.ownsRow.cellAt (w:=w) (base:=B) (e:=t) (size:=2) (g:=g) (cap:=cap) (n:=ps.length) (xs:=zaF ps) h (j * 2 + 1) (by omega)
  rw [Nat.zero_add,e1,e2]
  exact e
theorem za8 {w w' : World} {B : Nat} {e : TypeId} {size n : Nat} {v : Value} {xs : List Value} (h : w.ownsRow B e size v n xs) (hb : Below w.heap.size w w') : w'.ownsRow B e size v n xs:=by
 refine ⟨h.1,?_⟩
 rcases h.2 with h0 | ⟨g,cap,cur,hv,h1,hg,hc⟩
 ·exact .inl h0
 ·exact .inr ⟨g,cap,cur,hv,h1,(hb.block g (Array.getElem?_eq_some_iff.1 hg).1).trans hg,hc⟩
theorem zfh : (Tryz.prog.info? 67).map (fun i=>(i.zero,i.size,i.bytes)) = some (some (.agg #[.string ByteArray.empty,.string ByteArray.empty]),2,32):=by kernel_rfl
abbrev zaN (w : World) (B : Nat) (v : Value) (ps : List Pr) : Prop:=zbd 67 w B v ps
theorem zck (n q : List UInt8) : ((str n).toList == (str q).toList) = (n == q):=by rw [zaE,zaE]
theorem znv (n v q : List UInt8) (g : Nat) (w : World) (hg : w.cell? ⟨g,0,none⟩ = some (.string (str q))) :
  Calls Tryz.prog 182 #[.agg #[.string (str n),.string (str v)],.pointer (some ⟨g,0,none⟩)] w fun e w'=>e = .returned (.bool (n == q)) ∧ Below w.heap.size w w':=by
 have hlt:=zaK hg
 have hb : Below w.heap.size w (w.alloc (.cells #[.string (str n),.string (str v)] 67)):=(Below.refl _ w).alloc (Nat.le_refl _) _
 have hg2:=(hb.cell (p:=⟨g,0,none⟩) hlt).trans hg
 go_enter Tryz.func182,Tryz.ntmps182
 go_wp2
 go_ret
 exact ⟨zac (zck n q),hb⟩
theorem zd8 (ats : List Pr) (q : List UInt8) (j : Nat) (h : j < ats.length) : Tk.has (ats.take (j + 1)) q = (Tk.has (ats.take j) q || ats[j].1 == q):=by
 unfold Tk.has
 rw [List.take_succ_eq_append_getElem h,List.any_append]
 simp
theorem zd9 (ats : List Pr) (q : List UInt8) (j : Nat) (h : j < ats.length) (hq : (ats[j].1 == q) = true) : Tk.has ats q = true:=by
 unfold Tk.has
 rw [List.any_eq_true]
 exact ⟨ats[j],List.getElem_mem h,hq⟩
theorem zhB (ats : List Pr) (v : Value) (q : List UInt8) (g : Nat) (w : World) (hg : w.cell? ⟨g,0,none⟩ = some (.string (str q))) (hv : zar w v ats) (hl : ats.length ≤ 1000000) :
  Calls Tryz.prog 99 #[v,.func (.func 182) #[] #[.pointer (some ⟨g,0,none⟩)]] w fun e w'=>(∃ r,e = .returned (.int .i64 r) ∧ decide (0 ≤ r) = Tk.has ats q) ∧ Below w.heap.size w w':=by
 obtain ⟨a,c,rfl⟩:=hv.form
 have HV:=zaa hv
 have hlt:=zaK hg
 clear hv
 go_enter Tryz.func99,Tryz.ntmps99
 go_wp2
 go_loopw [8] (fun i wr=>∃ j : Nat,i = .int .i64 j ∧ j ≤ ats.length ∧ Hid (Tk.has (ats.take j) q = false) ∧ Below w.heap.size w wr) (fun i _=>ats.length - (intOf i).toNat)
 case atStart=>exact ⟨0,rfl,Nat.zero_le _,rfl,Below.refl _ _⟩
 case round =>
  obtain ⟨j,rfl,hj,HE,hB⟩:=hrel
  by_cases hjl : j < ats.length
  ·have hat : ats[j]? = some ats[j]:=List.getElem?_eq_getElem hjl
   obtain ⟨b,o,rfl,hc,hbl,h1,h2⟩:=HV.out.at hat
   have g1:=(hB.cell (p:=⟨b,o + j * 2,none⟩) hbl).trans h1
   have g2:=(hB.cell (p:=⟨b,o + j * 2 + 1,none⟩) hbl).trans h2
   have gg:=(hB.cell (p:=⟨g,0,none⟩) hlt).trans hg
   have hF:=znv ats[j].1 ats[j].2 q g wr gg
   cases hq : (ats[j].1 == q)
   ·have HN : Hid (Tk.has (ats.take (j + 1)) q = false):=by
     show _ = _
     rw [zd8 ats q j hjl,HE.out,hq]
     rfl
    rw [hq] at hF
    clear hat h1 h2 gg hq
    generalize ats[j] = p at *
    go_wp2_with (go_at_call 182;refine hF.mono ?_;rintro e w1 ⟨rfl,hb1⟩)
    go_roundw
    case rel=>exact ⟨j + 1,by go_num,by omega,HN,hB.trans (hb1.mono hB.size)⟩
    case measure=>simp [intOf];omega
   ·have HN : Hid (Tk.has ats q = true):=zd9 ats q j hjl hq
    rw [hq] at hF
    clear hat h1 h2 gg hq
    generalize ats[j] = p at *
    go_wp2_with (go_at_call 182;refine hF.mono ?_;rintro e w1 ⟨rfl,hb1⟩)
    go_ret
    exact ⟨⟨_,rfl,by rw [HN.out];simp⟩,hB.trans (hb1.mono hB.size)⟩
  ·have HN : Hid (Tk.has ats q = false):=by
    have h:=HE.out
    rwa [List.take_of_length_le (by omega)] at h
   go_wp2
   go_ret
   exact ⟨⟨_,rfl,by rw [HN.out];rfl⟩,hB⟩
theorem zjE (ats : List Pr) (v : Value) (q : List UInt8) (g : Nat) (w : World) (hg : w.cell? ⟨g,0,none⟩ = some (.string (str q))) (hv : zar w v ats) (hl : ats.length ≤ 1000000) :
  Calls Tryz.prog 62 #[v,.func (.func 182) #[] #[.pointer (some ⟨g,0,none⟩)]] w fun e w'=>e = .returned (.bool (Tk.has ats q)) ∧ Below w.heap.size w w':=by
 have hI:=zhB ats v q g w hg hv hl
 obtain ⟨a,c,rfl⟩:=hv.form
 clear hv hg
 go_enter Tryz.func62,Tryz.ntmps62
 go_wp2_with (go_at_call 99;refine hI.mono ?_;rintro e w1 ⟨⟨r,rfl,hr⟩,hK1⟩)
 go_ret
 exact ⟨by first | rfl | (rw [← hr];rfl),hK1⟩
theorem zbd.below {t : TypeId} {w w' : World} {B : Nat} {v : Value} {ps : List Pr} (h : zbd t w B v ps) (hb : Below w.heap.size w w') : zbd t w' B v ps:=za8 h hb
theorem zbd.kept {t : TypeId} {w w' : World} {B b : Nat} {v : Value} {ps : List Pr} (h : zbd t w B v ps) (hk : zby b w w') (hb : b < B) : zbd t w' B v ps:=by
 refine ⟨h.1,?_⟩
 rcases h.2 with h0 | ⟨g,cap,cur,hv,h1,hg,hc⟩
 ·exact .inl h0
 ·exact .inr ⟨g,cap,cur,hv,h1,hk.heap hg (by omega),hc⟩
theorem zrX (ats : List Pr) (v : Value) (n x : List UInt8) (B : Nat) (w : World) (hv : zaN w B v ats) (hB : B ≤ w.heap.size) (hl : ats.length ≤ 64) :
  Calls Tryz.prog 158 #[v,.agg #[.string (str n),.string (str x)]] w fun e w'=>∃ u,e = .returned u ∧ zaN w' B u (Tk.add ats (n,x)) ∧ Below B w w':=by
 obtain ⟨i0,hi,hz0,hz1,hz2⟩:=info_parts zfh
 have hmf : ∀ (fn : Fn) (first cap : Array Value) (w : World),(Instr.makeFunc fn first cap).run Tryz.prog w = .ok (.func fn first cap) w:=fun _ _ _ _=>rfl
 have HA : Hid (Tk.add ats (n,x) = if Tk.has ats n = false ∧ ats.length < 64 then ats ++ [(n,x)] else ats):=rfl
 have hb0 : Below w.heap.size w (w.alloc (.cells #[.string (str n),.string (str x)] 67)):=(Below.refl _ w).alloc (Nat.le_refl _) _
 have hv0 : zaN (w.alloc (.cells #[.string (str n),.string (str x)] 67)) B v ats:=zbd.below hv hb0
 have hh0 : (w.alloc (.cells #[.string (str n),.string (str x)] 67)).heap[w.heap.size]? = some (.cells #[.string (str n),.string (str x)] 67 (0,0)):=zaf w _
 have hs0 : (w.alloc (.cells #[.string (str n),.string (str x)] 67)).heap.size = w.heap.size + 1:=by simp
 obtain ⟨a,c,rfl⟩:=hv.reads.form
 clear hv
 by_cases h64 : ats.length = 64
 ·have q64 : ((ats.length : Int) == 64) = true:=by rw [h64];rfl
  have HN : Hid (Tk.add ats (n,x) = ats):=by show _ = _;rw [HA.out,if_neg (by omega)]
  clear h64
  go_enter Tryz.func158,Tryz.ntmps158
  go_wp2
  go_ret
  exact ⟨_,rfl,by rw [HN.out];exact hv0,hb0.mono hB⟩
 ·have q64 : ((ats.length : Int) == 64) = false:=by rw [beq_eq_false_iff_ne];omega
  have hH:=zjE ats _ n w.heap.size _ (Lib.cell_of_heap hh0 0) hv0.reads (by omega)
  have hlt : ats.length < 64:=by omega
  clear h64
  go_enter Tryz.func158,Tryz.ntmps158
  go_wp2_with fail
  generalize (w.alloc (.cells #[.string (str n),.string (str x)] 67)) = W at *
  cases hx : Tk.has ats n
  ·have HN : Hid (Tk.add ats (n,x) = ats ++ [(n,x)]):=by show _ = _;rw [HA.out,if_pos ⟨hx,hlt⟩]
   rw [hx] at hH
   go_wp2_with (first
    | (go_at_call 62;refine hH.mono ?_;rintro e w1 ⟨rfl,hb1⟩;have hv1:=zbd.below hv0 hb1;have hh1:=(hb1.block w.heap.size (by omega)).trans hh0;have cc0:=Lib.cell_of_heap hh1 0;have cc1:=Lib.cell_of_heap hh1 1;have hs1:=hb1.size)
    | (at_builtin;refine wpList_append_own _ rfl _ _ 40 rfl B 67 i0 (.agg #[.string ByteArray.empty,.string ByteArray.empty]) 2 32 Tryz.underlying40 hi hz0 hz1 hz2 rfl (by decide) _ _ _ rfl (World.ownsRow.alloc hv1 _) ⟨w1.heap.size,0,none⟩ 1 1 [.string (str n),.string (str x)] rfl rfl (cell_two_new w1 _ _ _) (fun x hx=>by simp at hx;rcases hx with rfl | rfl <;> rfl) (by unfold maxLen;omega) (by omega) (by simp;omega) ?_;intro v' w3 hown' hgrow3 hnil3))
   go_ret
   exact ⟨_,rfl,zbd.of HN.out rfl rfl hown',(((hb0.trans (hb1.mono (by omega))).mono hB).alloc (by omega) _).grown hgrow3 (by simp;omega) (fun q hq=>(World.ownsRow.lt hv1 q hq).1)⟩
  ·have HN : Hid (Tk.add ats (n,x) = ats):=by show _ = _;rw [HA.out,if_neg (by rw [hx];simp)]
   rw [hx] at hH
   go_wp2_with (go_at_call 62;refine hH.mono ?_;rintro e w1 ⟨rfl,hb1⟩)
   go_ret
   exact ⟨_,rfl,by rw [HN.out];exact zbd.below hv0 hb1,(hb0.trans (hb1.mono (by omega))).mono hB⟩
theorem zq4 (q : UInt8) : ∀ l : List UInt8,Tk.fd [q] l = (l.takeWhile (· != q)).length
 | []=>rfl
 | c :: t=>by
  rw [Tk.fd,List.takeWhile_cons]
  by_cases h : c = q
  ·subst h
   have e : [c].isPrefixOf (c :: t) = true:=by simp [List.isPrefixOf]
   rw [e]
   simp
  ·have e : [q].isPrefixOf (c :: t) = false:=by
    have : (q == c) = false:=beq_eq_false_iff_ne.2 fun e=>h e.symm
    simp [List.isPrefixOf,this]
   have e2 : (c != q) = true:=bne_iff_ne.2 h
   rw [e,e2,zq4 q t]
   simp
theorem zkL (q : UInt8) (l : List UInt8) : l.take (Tk.fd [q] l) = l.takeWhile (· != q) ∧ l.drop (Tk.fd [q] l + 1) = (l.dropWhile (· != q)).drop 1:=by
 have h:=zbc (· != q) l
 rw [zq4,h.1,← List.drop_drop,h.2]
 exact ⟨rfl,rfl⟩
theorem zfi {b : Nat} {l a : List UInt8} {w : World} (p r : List UInt8) (he : l = p ++ r) (h : Tr b l a w) :
  Calls Tryz.prog 88 #[.pointer (some ⟨b,0,none⟩),.string (str p)] w fun e w'=>e = .returned (.bool true) ∧ Tr b r a w' ∧ zby b w w':=by
 have h1:=zhw p h
 have hp : p.isPrefixOf l = true:=by rw [List.isPrefixOf_iff_prefix,he];exact ⟨r,rfl⟩
 rw [hp,if_pos rfl,he,List.drop_left] at h1
 exact h1
theorem zfL {b : Nat} {l a : List UInt8} {w : World} (p : List UInt8) (hp : p.isPrefixOf l = false) (h : Tr b l a w) :
  Calls Tryz.prog 88 #[.pointer (some ⟨b,0,none⟩),.string (str p)] w fun e w'=>e = .returned (.bool false) ∧ Tr b l a w' ∧ zby b w w':=by
 have h1:=zhw p h
 rw [hp,if_neg (by decide)] at h1
 exact h1
theorem zq5 {b : Nat} {l a : List UInt8} {w : World} (q : UInt8) (h : Tr b l a w) :
  Calls Tryz.prog 89 #[.pointer (some ⟨b,0,none⟩),.string (str [q])] w fun e w'=>e = .returned (.string (str (l.takeWhile (· != q)))) ∧ Tr b ((l.dropWhile (· != q)).drop 1) a w' ∧ zby b w w':=by
 have h1:=zhx [q] (by simp) h
 rw [(zkL q l).1] at h1
 rw [show [q].length = 1 from rfl,(zkL q l).2] at h1
 exact h1
def zbY (l : List UInt8) : List UInt8 × List UInt8:=match Tk.eqR l with
 | none=>([],l.dropWhile Asc.zbn)
 | some r=>(Tk.zcs r,Tk.zkB r)
theorem zjF (l : List UInt8) (h : [61].isPrefixOf (l.dropWhile Asc.zbn) = false) : zbY l = ([],l.dropWhile Asc.zbn):=by
 have e : Tk.eqR l = none:=by
  unfold Tk.eqR
  split
  ·rfl
  ·rename_i c r e
   rw [e] at h
   rw [if_neg]
   rintro rfl
   simp [List.isPrefixOf] at h
 unfold zbY
 rw [e]
theorem zjG (l t : List UInt8) (h : l.dropWhile Asc.zbn = [61] ++ t) : zbY l = (Tk.zcs (t.dropWhile Asc.zbn),Tk.zkB (t.dropWhile Asc.zbn)):=by
 have e : Tk.eqR l = some (t.dropWhile Asc.zbn):=by
  unfold Tk.eqR
  rw [h]
  rfl
 unfold zbY
 rw [e]
theorem zea (q : UInt8) (l : List UInt8) : (∃ t,l = [q] ++ t) ∨ [q].isPrefixOf l = false:=by
 cases l with
 | nil=>right;rfl
 | cons c t =>
  by_cases h : c = q
  ·left;exact ⟨t,by rw [h];rfl⟩
  ·right
   have : (q == c) = false:=beq_eq_false_iff_ne.2 fun e=>h e.symm
   simp [List.isPrefixOf,this]
theorem zjH (q : UInt8) (t : List UInt8) (c : UInt8) (h : [q].isPrefixOf (c :: t) = false) : c ≠ q:=by
 rintro rfl
 simp [List.isPrefixOf] at h
theorem znw {b : Nat} {l a : List UInt8} {w : World} (h : Tr b l a w) :
  Calls Tryz.prog 184 #[.pointer (some ⟨b,0,none⟩)] w fun e w'=>e = .returned (.string (str (zbY l).1)) ∧ Tr b (zbY l).2 a w' ∧ zby b w w':=by
 rcases zea 61 (l.dropWhile Asc.zbn) with ⟨t,ht⟩ | hn
 ·have hW:=zdM h
  rw [ht] at hW
  rw [zjG l t ht]
  clear ht
  have hWt:=fun (W : World) (h : Tr b t a W)=>zdM h
  generalize t.dropWhile Asc.zbn = r at hWt ⊢
  go_enter Tryz.func184,Tryz.ntmps184
  go_wp2_with fail
  go_at_call 155
  refine hW.mono ?_
  rintro e w1 ⟨rfl,h1,k1⟩
  go_wp2_with fail
  go_at_call 88
  refine (zfi [61] t rfl h1).mono ?_
  rintro e w2 ⟨rfl,h2,k2⟩
  go_wp2_with fail
  go_at_call 155
  refine (hWt _ h2).mono ?_
  rintro e w3 ⟨rfl,h3,k3⟩
  have hk3:=(k1.trans k2).trans k3
  clear k1 k2 k3 h1 h2 hW hWt
  go_wp2_with fail
  go_at_call 88
  rcases zea 34 r with ⟨s,rfl⟩ | h34
  ·refine (zfi [34] s rfl h3).mono ?_
   rintro e w4 ⟨rfl,h4,k4⟩
   go_wp2_with fail
   go_at_call 89
   refine (zq5 34 h4).mono ?_
   rintro e w5 ⟨rfl,h5,k5⟩
   go_wp2
   go_ret
   exact ⟨rfl,h5,(hk3.trans k4).trans k5⟩
  ·refine (zfL [34] h34 h3).mono ?_
   rintro e w4 ⟨rfl,h4,k4⟩
   go_wp2_with fail
   go_at_call 88
   rcases zea 39 r with ⟨s,rfl⟩ | h39
   ·refine (zfi [39] s rfl h4).mono ?_
    rintro e w5 ⟨rfl,h5,k5⟩
    go_wp2_with fail
    go_at_call 89
    refine (zq5 39 h5).mono ?_
    rintro e w6 ⟨rfl,h6,k6⟩
    go_wp2
    go_ret
    exact ⟨rfl,h6,((hk3.trans k4).trans k5).trans k6⟩
   ·refine (zfL [39] h39 h4).mono ?_
    rintro e w5 ⟨rfl,h5,k5⟩
    have HV : Hid (Tk.zcs r = r.takeWhile Tk.vn ∧ Tk.zkB r = r.dropWhile Tk.vn):=by
     cases r with
     | nil=>exact ⟨rfl,rfl⟩
     | cons c s =>
      have hq : Tk.isQ c = false:=by
       unfold Tk.isQ
       rw [beq_eq_false_iff_ne.2 (zjH 34 s c h34),beq_eq_false_iff_ne.2 (zjH 39 s c h39)]
       rfl
      refine ⟨?_,?_⟩
      ·rw [Tk.zcs,hq];rfl
      ·rw [Tk.zkB,hq];rfl
    clear h34 h39
    go_wp2_with fail
    go_at_call 155
    refine (zpG h5).mono ?_
    rintro e w6 ⟨rfl,h6,k6⟩
    go_wp2
    go_ret
    exact ⟨by rw [HV.out.1];rfl,by rw [HV.out.2];exact h6,((hk3.trans k4).trans k5).trans k6⟩
 ·rw [zjF l hn]
  go_enter Tryz.func184,Tryz.ntmps184
  go_wp2_with fail
  go_at_call 155
  refine (zdM h).mono ?_
  rintro e w1 ⟨rfl,h1,k1⟩
  go_wp2_with fail
  go_at_call 88
  refine (zfL [61] hn h1).mono ?_
  rintro e w2 ⟨rfl,h2,k2⟩
  go_wp2
  go_ret
  exact ⟨rfl,h2,k1.trans k2⟩
def AAt (w : World) (b : Nat) (x y : Value) : Prop:=w.heap[b]? = some (.cells #[x,y] 67 (0,0))
theorem znx : (Tryz.prog.info? 67).map (·.size) = some 2:=by kernel_rfl
theorem zrY : (Tryz.prog.info? 67).map (fun i=>(i.zero,i.size)) = some (some (.agg #[.string ByteArray.empty,.string ByteArray.empty]),2):=by kernel_rfl
theorem zny {w : World} {b : Nat} {x y : Value} (h : AAt w b x y) : (loadVar 67 ⟨b,0,none⟩).run Tryz.prog w = .ok (.agg #[x,y]) w :=
 run_loadVar_row _ _ _ _ _ _ _ h Tryz.underlying67 rfl znx
theorem zda {fn : Func} {p : Tmp} {ty : TypeId} (h : fn.results = #[.cell p ty]) (tmps : Array Value) (P : Program) (w : World) :
  (results fn tmps).run P w = ((asAddr (tmps.getD p undef)).run P w).andThen fun a w1=>(loadVar ty a).run P w1:=by
 simp only [results,h]
 simp [Sem.run_bind,Result.andThen]
theorem ret_A {fn : Func} {p : Tmp} {Q : Ending → World → Prop} {a : Act} {w : World} {b : Nat} {x y : Value} (hr : fn.results = #[.cell p 67]) (hd : a.defers = []) (hp : a.tmps.getD p undef = .pointer (some ⟨b,0,none⟩)) (h : AAt w b x y) (hQ : Q (.returned (.agg #[x,y])) w) :
  bodyPost Tryz.prog fn Q .ret a w:=by
 refine bodyPost_ret (v:=.agg #[x,y]) ?_ hd hQ
 rw [zda hr,hp]
 simp [asAddr,Result.andThen,zny h]
theorem znz {w : World} {b : Nat} {x y x0 y0 : Value} (h : AAt w b x0 y0) (hx : Value.oneCell' x = true) (hy : Value.oneCell' y = true) : (Instr.storeAt 67 (.pointer (some ⟨b,0,none⟩)) (.agg #[x,y])).run Tryz.prog w = .ok () (w.setRow b #[x,y]):=by
 simp only [Instr.storeAt,Instr.sureAddr,Sem.run_bind,Sem.run_pure,Result.andThen]
 exact run_storeVar_row _ _ _ _ _ _ h znx rfl (by simp [hx,hy])
theorem za9 {ops : Array Oper} {rest : List Oper} {o : Oper} {a : Act} {w : World} {Q : Exit → Act → World → Prop} (p q : Operand) (ho : o.op = .store 67 p q) (hg : o.guard = none) (b : Nat) (x y x0 y0 : Value) (hx : a.eval p = .pointer (some ⟨b,0,none⟩)) (hy : a.eval q = .agg #[x,y]) (h : AAt w b x0 y0) (h1 : Value.oneCell' x = true) (h2 : Value.oneCell' y = true)
  (hn : wpList Tryz.prog ops Q rest (a.put o.dst undef) (w.setRow b #[x,y])) : wpList Tryz.prog ops Q (o :: rest) a w:=by
 refine wpList_plain hg fun K hK=>?_
 unfold Oper.wp
 have e : (execOp a.eval o).run Tryz.prog w = .ok .skip (w.setRow b #[x,y]):=by
  unfold execOp
  rw [ho]
  simp only [hx,hy,Sem.run_bind,znz h h1 h2,Result.andThen,Sem.run_pure]
 rw [e,Oper.upon_skip]
 exact hK _ _ hn
theorem zcL {w : World} {b : Nat} {x y x0 y0 : Value} (h : AAt w b x0 y0) : AAt (w.setRow b #[x,y]) b x y:=by
 unfold AAt at *
 simp [World.setRow,Array.getElem?_modify,h]
theorem zah (b : Nat) (w : World) (cs : Array Value) : zby b w (w.setRow b cs) :=
 ⟨rfl,rfl,rfl,by simp [World.setRow],fun k _ hb=>by simp [World.setRow,Array.getElem?_modify,Ne.symm hb]⟩
theorem Tr.other {b c : Nat} {l a : List UInt8} {w w' : World} (h : Tr b l a w) (hk : zby c w w') (hb : b < c) (hc : c ≤ w.heap.size) : Tr b l a w' :=
 ⟨hk.heap h.at_ (by omega),h.len,h.lo1,h.lo2,h.env.belowB (hk.below c (Nat.le_refl _) hc) (Nat.lt_trans h.lo1 hb) (Nat.lt_trans h.lo2 hb)⟩
theorem zby.more {b c : Nat} {w W W' : World} (h : zby b w W) (h2 : zby c W W') (hc : w.heap.size ≤ c) : zby b w W' :=
 ⟨h2.os.trans h.os,h2.tape.trans h.tape,h2.output.trans h.output,Nat.le_trans h.size h2.size,fun k hk hb=>(h2.block k (Nat.lt_of_lt_of_le hk h.size) (by omega)).trans (h.block k hk hb)⟩
def zdN (l : List UInt8) : (List UInt8 × List UInt8) × List UInt8:=((Asc.zbJ (Tk.zey l),Rf.dec true (zbY (Tk.zd0 l)).1),(zbY (Tk.zd0 l)).2)
theorem zin (l : List UInt8) : (zbY l).1.length ≤ l.length ∧ (zbY l).2.length ≤ l.length:=by
 unfold zbY
 split
 ·exact ⟨Nat.zero_le _,Tk.zbH _ _⟩
 ·rename_i r e
  have h1:=Tk.zqV l r e
  have h2:=Tk.zrF r
  refine ⟨?_,by show (Tk.zkB r).length ≤ _;omega⟩
  show (Tk.zcs r).length ≤ _
  cases r with
  | nil=>exact Nat.zero_le _
  | cons q t =>
   rw [List.length_cons] at h1
   rw [Tk.zcs]
   split
   ·have:=zdA (· != q) t
    omega
   ·have:=zdA Tk.vn (q :: t)
    rw [List.length_cons] at this
    omega
theorem zpM {b : Nat} {c : UInt8} {t a : List UInt8} {w : World} (h : Tr b (c :: t) a w) :
  Calls Tryz.prog 159 #[.pointer (some ⟨b,0,none⟩)] w fun e w'=>e = .returned (.agg #[.string (str (zdN (c :: t)).1.1),.string (str (zdN (c :: t)).1.2)]) ∧ Tr b (zdN (c :: t)).2 a w' ∧ zby b w w':=by
 have hz:=(zero_of_info zrY).1
 have hlen:=h.len
 rw [List.length_cons] at hlen
 have hbw:=h.lt
 have h0:=h.step ((Below.refl _ w).alloc (Nat.le_refl _) (.cells #[.string ByteArray.empty,.string ByteArray.empty] 67))
 have hk0 : zby b w (w.alloc (.cells #[.string ByteArray.empty,.string ByteArray.empty] 67)):=zby.of ((Below.refl _ w).alloc (Nat.le_refl _) _)
 have ha0 : AAt (w.alloc (.cells #[.string ByteArray.empty,.string ByteArray.empty] 67)) w.heap.size (.string ByteArray.empty) (.string ByteArray.empty):=zaf w _
 have hT : ∀ W,Tr b (c :: t) a W → Calls Tryz.prog 120 #[.pointer (some ⟨b,0,none⟩),.int .i64 1] W fun e w'=>e = .returned (.string (str [c])) ∧ Tr b t a w' ∧ zby b W w':=fun W h=>zbL 1 h (by simp)
 have hWh:=fun W (h : Tr b t a W)=>zpF h
 have HP : Hid (zdN (c :: t) = ((Asc.zbJ (c :: t.takeWhile Tk.an),Rf.dec true (zbY (t.dropWhile Tk.an)).1),(zbY (t.dropWhile Tk.an)).2)):=rfl
 have hxl:=zdA Tk.an t
 have hrl:=Tk.zbH Tk.an t
 have hvl:=zin (t.dropWhile Tk.an)
 have hval:=fun W (h : Tr b (t.dropWhile Tk.an) a W)=>znw h
 generalize t.takeWhile Tk.an = x at *
 generalize t.dropWhile Tk.an = r at *
 generalize zbY r = vr at *
 obtain ⟨v,r2⟩:=vr
 have hs1 : (str [c]).size = 1:=zad [c]
 have hs2 : (str x).size = x.length:=zad x
 have hx6 : x.length ≤ 1000000:=by omega
 have hcat : str [c] ++ str x = str (c :: x):=by
  apply zcS
  rw [ByteArray.data_append,Array.toList_append,zam,zam]
  rfl
 have hLo:=fun W=>zie (str (c :: x)) W (by rw [zad,List.length_cons];omega)
 rw [zam] at hLo
 generalize Asc.zbJ (c :: x) = n at hLo HP
 have hDe:=fun W (hW : Win W)=>zdj v true W (by have:=hvl.1;simp only at this;omega) hW
 generalize Rf.dec true v = y at hDe HP
 rw [HP.out]
 simp only at hval
 clear hxl hrl hvl HP
 go_enter Tryz.func159,Tryz.ntmps159
 go_wp2_with fail
 generalize w.alloc (.cells #[.string ByteArray.empty,.string ByteArray.empty] 67) = W at *
 have h0' : Tr b (c :: t) a W.drew:=h0.step (Below.refl _ _).drew
 have hkd : zby b w W.drew:=hk0.drew
 have had : AAt W.drew w.heap.size (.string ByteArray.empty) (.string ByteArray.empty):=ha0
 have HT:=zaa hT
 have HWh:=zaa hWh
 have HLo:=zaa hLo
 have HDe:=zaa hDe
 have HVa:=zaa hval
 clear hT hWh hLo hDe hval
 go_region_with (first
  | (go_at_call 120;refine (HT.out _ h0').mono ?_;rintro e w1 ⟨rfl,h1,k1⟩)
  | (go_at_call 155;refine (HWh.out _ h1).mono ?_;rintro e w2 ⟨rfl,h2,k2⟩))
 have ha2 : AAt w2 w.heap.size (.string ByteArray.empty) (.string ByteArray.empty):=k2.heap (k1.heap had (by omega)) (by omega)
 have hk2:=(hkd.trans k1).trans k2
 have hw2:=hk2.size
 clear h0 hk0 ha0 h0' hkd had h1 k1 k2
 go_wp2_with fail
 go_at_call 154
 (try rw [hcat])
 refine (HLo.out _).mono ?_
 rintro e w3 ⟨rfl,hb3⟩
 have h3:=h2.step hb3
 have ha3 : AAt w3 w.heap.size (.string ByteArray.empty) (.string ByteArray.empty):=(hb3.block _ (Array.getElem?_eq_some_iff.1 ha2).1).trans ha2
 have hk3:=hk2.trans (zby.of hb3)
 clear h2 ha2 hk2 hb3
 go_wp2_with fail
 go_at_call 184
 refine (HVa.out _ h3).mono ?_
 rintro e w4 ⟨rfl,h4,k4⟩
 have ha4 : AAt w4 w.heap.size (.string ByteArray.empty) (.string ByteArray.empty):=k4.heap ha3 (by omega)
 have hk4:=hk3.trans k4
 clear h3 ha3 hk3 k4
 go_wp2_with fail
 go_at_call 121
 refine (HDe.out _ h4.env.1).mono ?_
 rintro e w5 ⟨rfl,hb5⟩
 have h5:=h4.step hb5
 have ha5 : AAt w5 w.heap.size (.string ByteArray.empty) (.string ByteArray.empty):=(hb5.block _ (Array.getElem?_eq_some_iff.1 ha4).1).trans ha4
 have hk5:=hk4.trans (zby.of hb5)
 clear h4 ha4 hk4 hb5
 go_wp2_with (refine za9 _ _ rfl rfl w.heap.size (.string (str n)) (.string (str y)) _ _ rfl rfl ha5 rfl rfl ?_)
 exact ret_A rfl rfl rfl (zcL ha5) ⟨rfl,h5.other (zah _ _ _) hbw hk5.size,hk5.more (zah _ _ _) (Nat.le_refl _)⟩
def zgv (sl : Bool) (g : List UInt8) : Bool:=(g.getLast?.map (· == 47)).getD sl
theorem zlG (sl : Bool) (c : UInt8) (g : List UInt8) : zgv sl (c :: g) = zgv (c == 47) g:=by
 cases g with
 | nil=>rfl
 | cons d g=>unfold zgv;rw [List.getLast?_cons_cons];cases h : (d :: g).getLast? with
  | none=>simp at h
  | some x=>rfl
theorem gp_62 (c : UInt8) (h : gp c = true) : c ≠ 62:=by
 rintro rfl
 revert h
 decide
theorem gp_or (c : UInt8) (h : gp c = true) : c = 47 ∨ Asc.zbn c = true:=by
 unfold gp at h
 rcases Bool.or_eq_true _ _ ▸ h with h | h
 ·exact .inr h
 ·exact .inl (by simpa using h)
theorem znA (ats : List Pr) : ∀ (l : List UInt8) (sl : Bool),Tk.tg l ats sl = Tk.tg (l.dropWhile gp) ats (zgv sl (l.takeWhile gp))
 | [],sl=>rfl
 | c :: t,sl=>by
  cases h : gp c
  ·rw [List.dropWhile_cons,List.takeWhile_cons,h]
   rfl
  ·rw [List.dropWhile_cons,List.takeWhile_cons,h,if_pos rfl,if_pos rfl,zlG,Tk.zkC c t ats sl (gp_62 c h) (gp_or c h)]
   exact znA ats t (c == 47)
theorem zkM (c : UInt8) (h : Asc.zbn c = true) : (c == 47) = false ∧ c ≠ 62:=by
 constructor
 ·rw [beq_eq_false_iff_ne];rintro rfl;revert h;decide
 ·rintro rfl;revert h;decide
theorem zio (ats : List Pr) : ∀ l : List UInt8,Tk.tg (l.dropWhile Asc.zbn) ats false = Tk.tg l ats false
 | []=>rfl
 | c :: t=>by
  cases h : Asc.zbn c
  ·rw [List.dropWhile_cons,h]
   rfl
  ·rw [List.dropWhile_cons,h,if_pos rfl,zio ats t,Tk.zkC c t ats false (zkM c h).2 (.inr h),(zkM c h).1]
theorem znB (l : List UInt8) : (zdN l).1 = (Tk.zet l).1:=by
 unfold zdN zbY Tk.zet
 cases Tk.eqR (Tk.zd0 l) with
 | none=>show (_,Rf.dec true []) = _;rw [Rf.zju]
 | some r=>rfl
theorem zpN (l : List UInt8) (X : List Pr) : Tk.tg (zdN l).2 X false = Tk.tg (Tk.zet l).2 X false:=by
 unfold zdN zbY Tk.zet
 cases Tk.eqR (Tk.zd0 l) with
 | none=>exact zio X _
 | some r=>rfl
theorem zpO (c : UInt8) (t : List UInt8) : (zdN (c :: t)).2.length ≤ t.length:=by
 have h1:=(zin (Tk.zd0 (c :: t))).2
 have h2:=Tk.zpo (c :: t) (by simp)
 rw [List.length_cons] at h2
 show (zbY (Tk.zd0 (c :: t))).2.length ≤ _
 omega
theorem zrZ (c : UInt8) (t : List UInt8) (ats : List Pr) (sl : Bool) (h1 : gp c = false) (h2 : c ≠ 62) : Tk.tg (c :: t) ats sl = Tk.tg (zdN (c :: t)).2 (Tk.add ats (zdN (c :: t)).1) false:=by
 have htn : Tk.tn c = true:=by rw [tn_gp,h1];simpa using h2
 rw [Tk.zjy c t ats sl htn,zpN,znB]
theorem zjI (g : List UInt8) : [47].isSuffixOf g = zgv false g:=by
 rcases List.eq_nil_or_concat g with rfl | ⟨i,x,rfl⟩
 ·rfl
 ·unfold zgv
  have e : (47 == x) = (x == 47):=Bool.beq_comm ..
  simp [List.isSuffixOf,List.isPrefixOf,e]
theorem zjJ (g : List UInt8) (w : World) (hz : g.length ≤ 1000000000) :
  Calls Tryz.prog 157 #[.string (str g),.string (str [47])] w fun e w'=>e = .returned (.bool (zgv false g)) ∧ w' = w:=by
 have h:=Tryz.strings_HasSuffix (str g) (str [47]) w (by rw [zad];omega)
 rw [zam,zam] at h
 rw [← zjI]
 exact h
theorem zjK (ats : List Pr) (x : Pr) (h : ats.length ≤ 64) : (Tk.add ats x).length ≤ 64:=by
 unfold Tk.add
 split
 ·rename_i h2;rw [List.length_append];show ats.length + 1 ≤ 64;omega
 ·exact h
end Go.Proofs.YtiodaahncadodaaGreatDoor
