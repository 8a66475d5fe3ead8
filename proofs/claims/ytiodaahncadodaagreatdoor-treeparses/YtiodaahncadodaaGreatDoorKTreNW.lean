/- Texts laid as one. -/
import Derived.Test.YtiodaahncadodaaGreatDoorKTreXZ
import Derived.Test.YtiodaahncadodaaGreatDoorKTreGI
import Derived.Shelf.Strings.BuilderF
import Derived.Test.YtiodaahncadodaaGreatDoorKTreAE
set_option maxRecDepth 100000
set_option maxHeartbeats 8000000
set_option linter.unusedVariables false
set_option linter.unusedSimpArgs false
namespace Go.Proofs.YtiodaahncadodaaGreatDoor
open Go.RowKit
theorem zre (a : Bool) (l : List UInt8) : l.length ≤ (Rf.enc a l).length:=by
 have h:=Rf.dec_len a (Rf.enc a l)
 rw [Rf.back a a l] at h
 exact h
theorem zi1 (a : Pr) (l : List Pr) : Tk.wt (a :: l) = a.1.length + a.2.length + Tk.wt l:=by
 unfold Tk.wt
 rw [List.map_cons,List.sum_cons]
theorem zoC : ∀ l : List Pr,Tk.wt l ≤ (l.flatMap Tk.zd2).length
 | []=>Nat.zero_le _
 | a :: l=>by
  have ih:=zoC l
  have he:=zre true a.2
  rw [List.flatMap_cons,List.length_append,zi1]
  have h1 : (Tk.zd2 a).length = a.1.length + (Rf.enc true a.2).length + 4:=by
   unfold Tk.zd2
   simp only [List.length_cons,List.length_append,List.length_nil]
   omega
  omega
theorem zk4 : ∀ l : List Pr,(∀ a ∈ l,a.1 ≠ []) → l.length ≤ Tk.wt l
 | [],_=>Nat.zero_le _
 | a :: l,h=>by
  have ih:=zk4 l (fun x hx=>h x (List.mem_cons_of_mem _ hx))
  have ha : 1 ≤ a.1.length:=List.length_pos_iff.2 (h a (List.mem_cons_self ..))
  rw [zi1,List.length_cons]
  omega
theorem zk5 {ns : List Nd} (h : Tre.zh3 ns = true) {i : Nat} (hi : i < ns.length) :
  ((Tre.zaC ns i).kind = 3 ∧ i ≠ 0 ∧ (Tre.zaC ns i).name = [] ∧ (Tre.zaC ns i).attrs = []) ∨ ((Tre.zaC ns i).kind ≠ 3 ∧ (Tre.zaC ns i).text = [] ∧ ∀ a ∈ (Tre.zaC ns i).attrs,a.1 ≠ []):=by
 have hs:=Tre.ziG h hi
 unfold Tre.zct at hs
 split at hs
 ·rename_i h0
  subst h0
  unfold Tre.zgw at hs
  simp only [Bool.and_eq_true,beq_iff_eq] at hs
  obtain ⟨h1,h2,h3,h4,h5⟩:=hs
  refine .inr ⟨by rw [h1];decide,h5,fun a ha=>?_⟩
  rw [List.length_eq_zero_iff.1 h4] at ha
  cases ha
 ·rename_i h0
  simp only [Bool.and_eq_true,Bool.or_eq_true] at hs
  rcases hs.2 with he | ht
  ·unfold Tre.zef at he
   simp only [Bool.and_eq_true,beq_iff_eq,Bool.not_eq_true'] at he
   obtain ⟨h1,h2,h3,h4⟩:=he
   refine .inr ⟨by rw [h1];decide,h4,fun a ha e=>?_⟩
   have : Tk.has (Tre.zaC ns i).attrs [] = true:=by
    unfold Tk.has
    exact List.any_eq_true.2 ⟨a,ha,by rw [e];rfl⟩
   rw [this] at h3
   cases h3
  ·unfold Tre.zfU at ht
   simp only [Bool.and_eq_true,beq_iff_eq] at ht
   exact .inl ⟨ht.1,h0,ht.2.1,List.length_eq_zero_iff.1 ht.2.2.1⟩
theorem raw_ge (ns : List Nd) (n : Nd) : n.text.length ≤ (zb7 ns n).length:=by
 unfold zb7
 split
 ·exact Nat.le_refl _
 ·exact zre _ _
theorem zqm {ns : List Nd} (h : Tre.zh3 ns = true) {i : Nat} (hi : i < ns.length) : zcv (Tre.zaC ns i) ≤ (Tre.zcr ns i).length:=by
 unfold zcv
 rcases zk5 h hi with ⟨h1,_,h3,h4⟩ | ⟨h1,h2,_⟩
 ·rw [Tre.ziH h hi h1,h3,h4]
  have:=raw_ge ns (Tre.zaC ns i)
  unfold zb7 at this
  show [].length + _ + 0 ≤ _
  simp only [List.length_nil]
  omega
 ·rw [Tre.zfW h hi h1,h2]
  have:=zoC (Tre.zaC ns i).attrs
  have e : Tk.zaX (Tre.zkT (Tre.zaC ns i)) = 60 :: ((Tre.zaC ns i).name ++ ((Tre.zaC ns i).attrs.flatMap Tk.zd2 ++ [62])):=rfl
  rw [e]
  simp only [List.length_append,List.length_cons,List.length_nil]
  omega
def Few (ns : List Nd) : Prop:=∀ i,i < ns.length → (Tre.zaC ns i).attrs.length ≤ 1000000000000000 ∧ zcv (Tre.zaC ns i) ≤ 1000000000000000
theorem zj8 {n : Nd} (h : zcv n ≤ 262144) (hn : ∀ a ∈ n.attrs,a.1 ≠ []) : zp1 (Tre.zkT n) ∧ zp1 (Tre.zq8 n) ∧ (Tk.zaX (Tre.zkT n)).length ≤ 1000000000 ∧ (Tk.zaX (Tre.zq8 n)).length ≤ 1000000000:=by
 have h1:=zk4 n.attrs hn
 have h2:=Tk.zpt n.attrs
 unfold zcv at h
 have h3 : (60 :: (n.name ++ Tk.zaP n.attrs false)).length ≤ 1000000000:=by
  show (60 :: (n.name ++ (n.attrs.flatMap Tk.zd2 ++ [62]))).length ≤ _
  simp only [List.length_cons,List.length_append,List.length_nil]
  omega
 refine ⟨⟨by show n.attrs.length ≤ _;omega,h3,fun a ha=>?_,Nat.zero_le _,by show n.name.length ≤ _;omega⟩,⟨Nat.zero_le _,?_,fun a ha=>(by cases ha),Nat.zero_le _,by show n.name.length ≤ _;omega⟩,h3,?_⟩
 ·have:=Tk.zq0 n.attrs a ha
  omega
 ·show (60 :: (n.name ++ Tk.zaP [] false)).length ≤ _
  unfold Tk.zaP
  simp
  omega
 ·show (60 :: 47 :: (n.name ++ [62])).length ≤ _
  simp
  omega
section
variable {ns : List Nd} {w0 : World} {a0 : Option Addr} {c0 b : Nat}
def zss (ns : List Nd) (w0 : World) (nv : Value) (b i : Nat) : Prop:=∀ (w : World) (acc : List UInt8),zf7 b w nv acc → Below w0.heap.size w0 w → acc.length ≤ 262144 → Calls Tryz.prog 42 #[.pointer (some ⟨b,0,none⟩),.int .i64 (i : Int)] w (zg6 b nv w acc (Tre.zcr ns i))
def zqn (ns : List Nd) (w0 : World) (nv : Value) (b i : Nat) : Prop:=∀ (w : World) (acc : List UInt8),zf7 b w nv acc → Below w0.heap.size w0 w → acc.length ≤ 262144 → Calls Tryz.prog 41 #[.pointer (some ⟨b,0,none⟩),.int .i64 (i : Int)] w (zg6 b nv w acc (Tre.zn8 ns i))
theorem zl2 (ks : List Int) (f : Int → List UInt8) (j : Nat) (h : j < ks.length) : (ks.take (j + 1)).flatMap f = (ks.take j).flatMap f ++ f ks[j]:=by
 rw [List.take_succ_eq_append_getElem h,List.flatMap_append]
 simp
theorem zqo (ks : List Int) (f : Int → List UInt8) (j : Nat) : ((ks.take j).flatMap f).length ≤ (ks.flatMap f).length:=by
 have : ks.flatMap f = (ks.take j).flatMap f ++ (ks.drop j).flatMap f:=by rw [← List.flatMap_append,List.take_append_drop]
 rw [this,List.length_append]
 omega
theorem zqp (hns : zbA w0 (.slice a0 ns.length c0) ns) (hm : Tre.zh3 ns = true) (hwb : w0.heap.size ≤ b) {i : Nat} (hi : i < ns.length) (ih : ∀ k,i < k → k < ns.length → zss ns w0 (.slice a0 ns.length c0) b k) : zqn ns w0 (.slice a0 ns.length c0) b i:=by
 intro w acc h hbel ha
 obtain ⟨g,o,xa,xc,xk,xd,rfl,hcc,hr0⟩:=hns.at hi
 have hr:=hr0.below hbel
 have hnl:=((Tre.zeh ns).1 hm).1.2
 have HK:=zaa (fun k hk=>Tre.zn5 hm hi (k:=k) hk)
 have HE : Hid (Tre.zn8 ns i = (Tre.zaC ns i).kids.flatMap fun k=>Tre.zcr ns k.toNat):=rfl
 have hkl : (Tre.zaC ns i).kids.length ≤ 4096:=by
  rw [Tre.zp4 hm hi]
  exact Nat.le_trans (Tre.zn4 ns i _) hnl
 have c5:=hr.c5
 have hrk:=hr0.kds
 have cb : w.cell? ⟨b,0,none⟩ = some (.slice (some ⟨g,o,none⟩) ns.length c0):=by
  obtain ⟨p,v,h1,_⟩:=h
  exact Lib.cell_of_heap h1 0
 have HA0:=zaa h
 have HBel:=zaa hbel
 have HIH:=zaa ih
 have HRK:=zaa hrk
 generalize (Tre.zaC ns i).kids = ks at *
 clear hns hbel h ih hrk hr hr0
 go_enter Tryz.func41,Tryz.ntmps41
 go_wp2
 go_loopw [16] (fun s wr=>∃ j : Nat,s = .int .i64 j ∧ j ≤ ks.length ∧ Hid (acc.length + ((ks.take j).flatMap fun k=>Tre.zcr ns k.toNat).length ≤ 262144) ∧ Hid (zf7 b wr (.slice (some ⟨g,o,none⟩) ns.length c0) (acc ++ (ks.take j).flatMap fun k=>Tre.zcr ns k.toNat)) ∧ Hid (zmn b w wr)) (fun s _=>ks.length - (intOf s).toNat)
 case atStart=>exact ⟨0,rfl,Nat.zero_le _,by show acc.length + 0 ≤ _;omega,by show zf7 b w _ (acc ++ []);rw [List.append_nil];exact HA0.out,zmn.refl _ _⟩
 case round =>
  obtain ⟨j,rfl,hj,HF,HW,HB⟩:=hrel
  by_cases hjl : j < ks.length
  ·obtain ⟨k,hk,hik,hkn,_⟩:=HK.out ks[j] (List.getElem_mem hjl)
   have hBw : Below w0.heap.size w0 wr:=HBel.out.trans (HB.out.bel.mono hwb)
   obtain ⟨gk,ok,rfl,hck,hgk,ck⟩:=zbz.at (HRK.out.below hBw) (List.getElem?_eq_getElem hjl)
   have HN:=zaa (zl2 ks (fun k=>Tre.zcr ns k.toNat) j hjl)
   have HLE:=zaa (zqo ks (fun k=>Tre.zcr ns k.toNat) (j + 1))
   have HC:=zaa (HIH.out k hik hkn wr _ HW.out hBw (by rw [List.length_append];exact HF.out))
   rw [hk] at ck HN
   have HJ : Hid (j + 1 ≤ ks.length):=hjl
   have HBw:=zaa hBw
   simp only [Int.toNat_natCast] at HN
   generalize hS : ((ks.take j).flatMap fun k=>Tre.zcr ns k.toNat) = S at *
   clear hBw hk
   by_cases hfit : (acc ++ S).length + (Tre.zcr ns k).length ≤ 262144
   ·have HD : Hid (decide ((acc ++ S).length + (Tre.zcr ns k).length ≤ 262144) = true):=decide_eq_true hfit
    have HFit:=zaa hfit
    clear hfit
    go_wp2_with (go_at_call 42;refine HC.out.mono ?_;rintro e w2 ⟨rfl,b2,k2⟩;rw [HD.out];have HW2:=zaa (k2 HFit.out);have HB2:=zaa b2;clear b2 k2)
    go_roundw
    case rel=>exact ⟨j + 1,by go_num,HJ.out,by show acc.length + _ ≤ _;rw [HN.out];have:=HFit.out;simp only [List.length_append] at this ⊢;omega,by show zf7 b _ _ _;rw [HN.out,← List.append_assoc];exact HW2.out,HB.out.trans HB2.out⟩
    case measure=>have:=HJ.out;simp [intOf];omega
   ·have HD : Hid (decide ((acc ++ S).length + (Tre.zcr ns k).length ≤ 262144) = false):=decide_eq_false hfit
    have HX : Hid (¬ acc.length + (Tre.zn8 ns i).length ≤ 262144):=fun h=>by
     have h2:=HLE.out
     rw [HN.out] at h2
     rw [HE.out] at h
     simp only [List.length_append] at h2 hfit
     omega
    clear hfit
    go_wp2_with (go_at_call 42;refine HC.out.mono ?_;rintro e w2 ⟨rfl,b2,k2⟩;rw [HD.out];have HB2:=zaa b2;clear b2 k2)
    go_ret
    exact ⟨by rw [decide_eq_false HX.out];rfl,HB.out.trans HB2.out,fun h=>absurd h HX.out⟩
  ·have hje : j = ks.length:=by omega
   subst hje
   have HX : Hid (acc.length + (Tre.zn8 ns i).length ≤ 262144):=by
    show _ ≤ _
    have:=HF.out
    rw [List.take_length] at this
    rw [HE.out]
    exact this
   have HW2 : Hid (zf7 b wr (.slice (some ⟨g,o,none⟩) ns.length c0) (acc ++ Tre.zn8 ns i)):=by
    show zf7 _ _ _ _
    have:=HW.out
    rw [List.take_length] at this
    rw [HE.out]
    exact this
   clear HF HW
   go_wp2
   go_ret
   exact ⟨by rw [decide_eq_true HX.out];rfl,HB.out,fun _=>HW2.out⟩
theorem zg6.base {b : Nat} {nv : Value} {w w1 : World} {acc x : List UInt8} {e : Ending} {w' : World} (h : zg6 b nv w1 acc x e w') (hb : zmn b w w1) : zg6 b nv w acc x e w':=⟨h.1,hb.trans h.2.1,h.2.2⟩
theorem zqq (hns : zbA w0 (.slice a0 ns.length c0) ns) (hm : Tre.zh3 ns = true) (hfew : Few ns) (hwb : w0.heap.size ≤ b) {i : Nat} (hi : i < ns.length) (ih : zqn ns w0 (.slice a0 ns.length c0) b i) : zss ns w0 (.slice a0 ns.length c0) b i:=by
 intro w acc h hbel ha
 have hbl:=h.lt
 obtain ⟨g,o,aa,ac,ka,kc,rfl,hcc,hr0⟩:=hns.at hi
 have hr:=hr0.below hbel
 have hnl:=((Tre.zeh ns).1 hm).1.2
 have cb : w.cell? ⟨b,0,none⟩ = some (.slice (some ⟨g,o,none⟩) ns.length c0):=by
  obtain ⟨p,v,h1,_⟩:=h
  exact Lib.cell_of_heap h1 0
 have hle:=zqm hm hi
 have hform:=zk5 hm hi
 have hf:=hfew i hi
 have hup : i ≠ 0 → 0 ≤ (Tre.zaC ns i).up ∧ (Tre.zaC ns i).up < (ns.length : Int):=fun h0=>by
  have:=Tre.may_up hm hi h0
  omega
 have HNT:=zaa (fun h=>Tre.ziH hm hi h)
 have HNE:=zaa (fun h=>Tre.zfW hm hi h)
 have HRN:=zaa hns
 have HBel:=zaa hbel
 have HW:=zaa h
 have HIH:=zaa ih
 have HR0:=zaa hr0
 have hrng:=hr.rng
 have hb1 : Below w.heap.size w (w.alloc (.cells (nL (Tre.zaC ns i) aa ac ka kc).toArray 43)):=(Below.refl _ w).alloc (Nat.le_refl _) _
 have hh:=zaf w (.cells (nL (Tre.zaC ns i) aa ac ka kc).toArray 43)
 have HLeast:=zaa (zoA (Tre.zaC ns i) aa ac ka kc _ ((hr.ats).below hb1) hf.1 hf.2)
 have HB1:=zaa hb1
 have hsz1:=hb1.size
 generalize hnd : Tre.zaC ns i = n at *
 obtain ⟨kd,nm,ats,tx,up,ks⟩:=n
 have HRNG:=zaa hrng
 have cc0:=Lib.cell_of_heap hh 0
 have cc1:=Lib.cell_of_heap hh 1
 have cc2:=Lib.cell_of_heap hh 2
 clear hns hbel h ih hr0 hr hrng hb1
 by_cases hbig : 262144 < zcv ⟨kd,nm,ats,tx,up,ks⟩
 ·have q1 : (262144 : Int) < (zcv ⟨kd,nm,ats,tx,up,ks⟩ : Int):=by omega
  have HX : Hid (¬ acc.length + (Tre.zcr ns i).length ≤ 262144):=fun h=>by omega
  clear hform hup hf hle hbig hnd HNT HNE
  go_enter Tryz.func42,Tryz.ntmps42
  go_wp2_with (first
   | ((with_reducible show wpList _ _ _ ({ op:=Op.load 43 _,.. } :: _) _ _);refine zau (by rfl) _ rfl g (o + i * 6) rfl _ _ _ _ _ _ HRNG.out ?_)
   | ((with_reducible show wpList _ _ _ ({ op:=Op.load 43 _,.. } :: _) _ _);refine zau (by rfl) _ rfl w.heap.size 0 rfl _ _ _ _ _ _ (zaT hh) ?_)
   | (go_at_call 65;refine HLeast.out.mono ?_;rintro e w1 ⟨rfl,b1⟩;have HQ:=zaa (zmn.of (bel HB1.out b1) (Nat.le_of_lt hbl))))
  go_ret
  exact ⟨by rw [decide_eq_false HX.out];rfl,HQ.out,fun h=>absurd h HX.out⟩
 ·have q1 : ¬ (262144 : Int) < (zcv ⟨kd,nm,ats,tx,up,ks⟩ : Int):=by omega
  have hls : zcv ⟨kd,nm,ats,tx,up,ks⟩ ≤ 262144:=by omega
  have htx : tx.length ≤ 262144:=by
   unfold zcv at hls
   simp only at hls
   omega
  rcases hform with ⟨h3,hi0,h5,h6⟩ | ⟨h3,h5,h6⟩
  ·simp only at h3 h5 h6
   subst h3 h5 h6
   have HTX:=zaa (fun W (hW : Below w.heap.size w W)=>zoB (ns:=ns) (w0:=w0) ⟨3,[],[],tx,up,ks⟩ aa ac ka kc (HW.out.below hW) HRN.out (HBel.out.trans (hW.mono HBel.out.size)) (hup hi0) hnl htx ha)
   have HE : Hid (Tre.zcr ns i = zb7 ns ⟨3,[],[],tx,up,ks⟩):=by show _ = _;rw [HNT.out rfl];rfl
   clear hup hf hle hbig hnd HNT HNE hls
   go_enter Tryz.func42,Tryz.ntmps42
   go_wp2_with (first
    | ((with_reducible show wpList _ _ _ ({ op:=Op.load 43 _,.. } :: _) _ _);refine zau (by rfl) _ rfl g (o + i * 6) rfl _ _ _ _ _ _ HRNG.out ?_)
    | ((with_reducible show wpList _ _ _ ({ op:=Op.load 43 _,.. } :: _) _ _);refine zau (by rfl) _ rfl w.heap.size 0 rfl _ _ _ _ _ _ (zaT hh1) ?_)
    | ((with_reducible show wpList _ _ _ ({ op:=Op.load 43 _,.. } :: _) _ _);refine zau (by rfl) _ rfl w.heap.size 0 rfl _ _ _ _ _ _ (zaT hh) ?_)
    | (go_at_call 65;refine HLeast.out.mono ?_;rintro e w1 ⟨rfl,b1⟩;have HQ:=zaa (bel HB1.out b1);have hh1:=(b1.block w.heap.size (by simp)).trans hh;have k0:=Lib.cell_of_heap hh1 0)
    | (go_at_call 66;refine (HTX.out _ HQ.out).mono ?_;rintro e w2 hp;have HP:=zaa (hp.base (zmn.of HQ.out (Nat.le_of_lt hbl)));obtain ⟨rfl,_⟩:=hp))
   go_ret
   rw [HE.out]
   exact HP.out
  ·simp only at h3 h5 h6
   subst h5
   have q3 : (kd == (3 : Int)) = false:=by rw [beq_eq_false_iff_ne];exact h3
   obtain ⟨hbs,hbe,hl1,hl2⟩:=zj8 hls h6
   have HNX:=zaa (HNE.out h3)
   have HTagS:=zaa (fun W (hW : Below w.heap.size w W)=>zjR (Tre.zkT ⟨kd,nm,ats,[],up,ks⟩) (.slice aa ats.length ac) W ((HR0.out.ats.below (HBel.out)).below hW) hbs)
   have HTagE:=zaa (fun W=>zjR (Tre.zq8 ⟨kd,nm,ats,[],up,ks⟩) (.slice none 0 0) W (.inl ⟨none,0,rfl,rfl⟩) hbe)
   have HPutS:=zaa (fun W (hW : Below w.heap.size w W)=>zsq (Tk.zaX (Tre.zkT ⟨kd,nm,ats,[],up,ks⟩)) (HW.out.below hW) ha hl1)
   generalize Tk.zaX (Tre.zkT ⟨kd,nm,ats,[],up,ks⟩) = T1 at *
   generalize Tk.zaX (Tre.zq8 ⟨kd,nm,ats,[],up,ks⟩) = T2 at *
   have HBL:=zaa (Nat.le_of_lt hbl)
   have HBL2:=zaa hbl
   have HV:=zaa (zcF nm)
   have HNL : Hid ((Tre.zcr ns i).length = T1.length + ((Tre.zn8 ns i).length + (if Tre.zgS nm = true then ([] : List UInt8) else T2).length)):=by
    show _ = _
    rw [HNX.out,List.length_append,List.length_append]
   clear hup hf hle hbig hnd HNT HNE hls hbs hbe hl1 htx h6
   by_cases hf1 : acc.length + T1.length ≤ 262144
   ·have HD1 : Hid (decide (acc.length + T1.length ≤ 262144) = true):=decide_eq_true hf1
    have HF1:=zaa hf1
    clear hf1
    by_cases hf2 : (acc ++ T1).length + (Tre.zn8 ns i).length ≤ 262144
    ·have HD2 : Hid (decide ((acc ++ T1).length + (Tre.zn8 ns i).length ≤ 262144) = true):=decide_eq_true hf2
     have HF2:=zaa hf2
     clear hf2
     cases hv : Tre.zgS nm
     ·have HX : Hid (Tre.zcr ns i = T1 ++ (Tre.zn8 ns i ++ T2)):=by
       show _ = _
       rw [HNX.out]
       show T1 ++ (_ ++ (if Tre.zgS nm = true then [] else T2)) = _
       rw [hv]
       rfl
      rw [hv] at HV
      clear hv HNL HNX
      go_enter Tryz.func42,Tryz.ntmps42
      go_wp2_with (first
       | ((with_reducible show wpList _ _ _ ({ op:=Op.load 43 _,.. } :: _) _ _);refine zau (by rfl) _ rfl g (o + i * 6) rfl _ _ _ _ _ _ HRNG.out ?_)
       | ((with_reducible show wpList _ _ _ ({ op:=Op.load 43 _,.. } :: _) _ _);refine zau (by rfl) _ rfl w.heap.size 0 rfl _ _ _ _ _ _ (zaT hh) ?_)
       | (go_at_call 65;refine HLeast.out.mono ?_;rintro e w1 ⟨rfl,b1⟩;have HQ1:=zaa (bel HB1.out b1);have hh1:=(b1.block w.heap.size (by simp)).trans hh;have k0:=Lib.cell_of_heap hh1 0;have k1:=Lib.cell_of_heap hh1 1;have k2:=Lib.cell_of_heap hh1 2)
       | (go_at_call 68;refine (HTagS.out _ HQ1.out).mono ?_;rintro e w2 ⟨rfl,b2⟩;have HQ2:=zaa (bel HQ1.out b2);have HH2:=zaa ((b2.block w.heap.size (Array.getElem?_eq_some_iff.1 hh1).1).trans hh1);clear b2 HTagS)
       | (go_at_call 67;refine (HPutS.out _ HQ2.out).mono ?_;rintro e w3 ⟨rfl,b3,h3⟩;rw [HD1.out];have HQ3:=zaa ((zmn.of HQ2.out HBL.out).trans b3);have HW3:=zaa (h3 HF1.out);have HH3:=zaa (b3.others _ _ HH2.out (fun e=>by cases e;exact absurd HBL2.out (Nat.lt_irrefl _)) (fun c fz e=>by cases e));clear b3 h3 HPutS)
       | (go_at_call 41;refine (HIH.out w3 (acc ++ T1) HW3.out (HBel.out.trans (HQ3.out.bel.mono hwb)) (by rw [List.length_append];exact HF1.out)).mono ?_;rintro e w4 ⟨rfl,b4,h4⟩;rw [HD2.out];have HQ4:=zaa (HQ3.out.trans b4);have HW4:=zaa (h4 HF2.out);have hh4:=b4.others _ _ HH3.out (fun e=>by cases e;exact absurd HBL2.out (Nat.lt_irrefl _)) (fun c fz e=>by cases e);have m1:=Lib.cell_of_heap hh4 1;clear b4 h4)
       | (go_at_call 69;refine (HV.out w4).mono ?_;rintro e w5 ⟨rfl,he5⟩;replace he5:=he5.symm;subst he5)
       | (go_at_call 68;refine (HTagE.out w4).mono ?_;rintro e w6 ⟨rfl,b6⟩;have HW6:=zaa (HW4.out.below b6);have HQ6:=zaa (HQ4.out.trans (zmn.of b6 (Nat.le_of_lt HW4.out.lt)));clear b6)
       | (go_at_call 67;refine (zsq T2 HW6.out (by rw [List.length_append];exact HF2.out) hl2).mono ?_;rintro e w7 ⟨rfl,b7,h7⟩;have HQ7:=zaa (HQ6.out.trans b7);have HW7:=zaa h7;clear b7 h7))
      go_ret
      rw [HX.out]
      have e9 : (acc ++ T1 ++ Tre.zn8 ns i).length + T2.length = acc.length + (T1 ++ (Tre.zn8 ns i ++ T2)).length:=by
       simp only [List.length_append]
       omega
      refine ⟨?_,HQ7.out,fun hx=>?_⟩
      ·have e8 : acc.length + (T1.length + (Tre.zn8 ns i).length) + T2.length = acc.length + (T1 ++ (Tre.zn8 ns i ++ T2)).length:=by
        simp only [List.length_append]
        omega
       rw [← e8]
       rfl
      ·have:=HW7.out (by rw [e9];exact hx)
       simpa only [List.append_assoc] using this
     ·have HX : Hid (Tre.zcr ns i = T1 ++ Tre.zn8 ns i):=by
       show _ = _
       rw [HNX.out]
       show T1 ++ (_ ++ (if Tre.zgS nm = true then [] else T2)) = _
       rw [hv]
       simp
      rw [hv] at HV
      clear hv HNL HNX
      go_enter Tryz.func42,Tryz.ntmps42
      go_wp2_with (first
       | ((with_reducible show wpList _ _ _ ({ op:=Op.load 43 _,.. } :: _) _ _);refine zau (by rfl) _ rfl g (o + i * 6) rfl _ _ _ _ _ _ HRNG.out ?_)
       | ((with_reducible show wpList _ _ _ ({ op:=Op.load 43 _,.. } :: _) _ _);refine zau (by rfl) _ rfl w.heap.size 0 rfl _ _ _ _ _ _ (zaT hh) ?_)
       | (go_at_call 65;refine HLeast.out.mono ?_;rintro e w1 ⟨rfl,b1⟩;have HQ1:=zaa (bel HB1.out b1);have hh1:=(b1.block w.heap.size (by simp)).trans hh;have k0:=Lib.cell_of_heap hh1 0;have k1:=Lib.cell_of_heap hh1 1;have k2:=Lib.cell_of_heap hh1 2)
       | (go_at_call 68;refine (HTagS.out _ HQ1.out).mono ?_;rintro e w2 ⟨rfl,b2⟩;have HQ2:=zaa (bel HQ1.out b2);have HH2:=zaa ((b2.block w.heap.size (Array.getElem?_eq_some_iff.1 hh1).1).trans hh1);clear b2 HTagS)
       | (go_at_call 67;refine (HPutS.out _ HQ2.out).mono ?_;rintro e w3 ⟨rfl,b3,h3⟩;rw [HD1.out];have HQ3:=zaa ((zmn.of HQ2.out HBL.out).trans b3);have HW3:=zaa (h3 HF1.out);have HH3:=zaa (b3.others _ _ HH2.out (fun e=>by cases e;exact absurd HBL2.out (Nat.lt_irrefl _)) (fun c fz e=>by cases e));clear b3 h3 HPutS)
       | (go_at_call 41;refine (HIH.out w3 (acc ++ T1) HW3.out (HBel.out.trans (HQ3.out.bel.mono hwb)) (by rw [List.length_append];exact HF1.out)).mono ?_;rintro e w4 ⟨rfl,b4,h4⟩;rw [HD2.out];have HQ4:=zaa (HQ3.out.trans b4);have HW4:=zaa (h4 HF2.out);have hh4:=b4.others _ _ HH3.out (fun e=>by cases e;exact absurd HBL2.out (Nat.lt_irrefl _)) (fun c fz e=>by cases e);have m1:=Lib.cell_of_heap hh4 1;clear b4 h4)
       | (go_at_call 69;refine (HV.out w4).mono ?_;rintro e w5 ⟨rfl,he5⟩;replace he5:=he5.symm;subst he5))
      go_ret
      rw [HX.out]
      have e9 : (acc ++ T1).length + (Tre.zn8 ns i).length = acc.length + (T1 ++ Tre.zn8 ns i).length:=by
       simp only [List.length_append]
       omega
      refine ⟨?_,HQ4.out,fun hx=>?_⟩
      ·rw [← e9,HD2.out]
       rfl
      ·have:=HW4.out
       simpa only [List.append_assoc] using this
    ·have HD2 : Hid (decide ((acc ++ T1).length + (Tre.zn8 ns i).length ≤ 262144) = false):=decide_eq_false hf2
     have HX : Hid (¬ acc.length + (Tre.zcr ns i).length ≤ 262144):=fun h=>by
      have:=HNL.out
      rw [List.length_append] at hf2
      omega
     clear hf2 HNL HNX
     go_enter Tryz.func42,Tryz.ntmps42
     go_wp2_with (first
      | ((with_reducible show wpList _ _ _ ({ op:=Op.load 43 _,.. } :: _) _ _);refine zau (by rfl) _ rfl g (o + i * 6) rfl _ _ _ _ _ _ HRNG.out ?_)
      | ((with_reducible show wpList _ _ _ ({ op:=Op.load 43 _,.. } :: _) _ _);refine zau (by rfl) _ rfl w.heap.size 0 rfl _ _ _ _ _ _ (zaT hh) ?_)
      | (go_at_call 65;refine HLeast.out.mono ?_;rintro e w1 ⟨rfl,b1⟩;have HQ1:=zaa (bel HB1.out b1);have hh1:=(b1.block w.heap.size (by simp)).trans hh;have k0:=Lib.cell_of_heap hh1 0;have k1:=Lib.cell_of_heap hh1 1;have k2:=Lib.cell_of_heap hh1 2)
      | (go_at_call 68;refine (HTagS.out _ HQ1.out).mono ?_;rintro e w2 ⟨rfl,b2⟩;have HQ2:=zaa (bel HQ1.out b2);have HH2:=zaa ((b2.block w.heap.size (Array.getElem?_eq_some_iff.1 hh1).1).trans hh1);clear b2 HTagS)
      | (go_at_call 67;refine (HPutS.out _ HQ2.out).mono ?_;rintro e w3 ⟨rfl,b3,h3⟩;rw [HD1.out];have HQ3:=zaa ((zmn.of HQ2.out HBL.out).trans b3);have HW3:=zaa (h3 HF1.out);have HH3:=zaa (b3.others _ _ HH2.out (fun e=>by cases e;exact absurd HBL2.out (Nat.lt_irrefl _)) (fun c fz e=>by cases e));clear b3 h3 HPutS)
      | (go_at_call 41;refine (HIH.out w3 (acc ++ T1) HW3.out (HBel.out.trans (HQ3.out.bel.mono hwb)) (by rw [List.length_append];exact HF1.out)).mono ?_;rintro e w4 ⟨rfl,b4,h4⟩;rw [HD2.out];have HQ4:=zaa (HQ3.out.trans b4);clear b4 h4))
     go_ret
     exact ⟨by rw [decide_eq_false HX.out];rfl,HQ4.out,fun h=>absurd h HX.out⟩
   ·have HD1 : Hid (decide (acc.length + T1.length ≤ 262144) = false):=decide_eq_false hf1
    have HX : Hid (¬ acc.length + (Tre.zcr ns i).length ≤ 262144):=fun h=>by
     have:=HNL.out
     omega
    clear hf1 HNL HNX
    go_enter Tryz.func42,Tryz.ntmps42
    go_wp2_with (first
     | ((with_reducible show wpList _ _ _ ({ op:=Op.load 43 _,.. } :: _) _ _);refine zau (by rfl) _ rfl g (o + i * 6) rfl _ _ _ _ _ _ HRNG.out ?_)
     | ((with_reducible show wpList _ _ _ ({ op:=Op.load 43 _,.. } :: _) _ _);refine zau (by rfl) _ rfl w.heap.size 0 rfl _ _ _ _ _ _ (zaT hh) ?_)
     | (go_at_call 65;refine HLeast.out.mono ?_;rintro e w1 ⟨rfl,b1⟩;have HQ1:=zaa (bel HB1.out b1);have hh1:=(b1.block w.heap.size (by simp)).trans hh;have k0:=Lib.cell_of_heap hh1 0;have k1:=Lib.cell_of_heap hh1 1;have k2:=Lib.cell_of_heap hh1 2)
     | (go_at_call 68;refine (HTagS.out _ HQ1.out).mono ?_;rintro e w2 ⟨rfl,b2⟩;have HQ2:=zaa (bel HQ1.out b2);have HH2:=zaa ((b2.block w.heap.size (Array.getElem?_eq_some_iff.1 hh1).1).trans hh1);clear b2 HTagS)
     | (go_at_call 67;refine (HPutS.out _ HQ2.out).mono ?_;rintro e w3 ⟨rfl,b3,h3⟩;rw [HD1.out];have HQ3:=zaa ((zmn.of HQ2.out HBL.out).trans b3);clear b3 h3 HPutS))
    go_ret
    exact ⟨by rw [decide_eq_false HX.out];rfl,HQ3.out,fun h=>absurd h HX.out⟩
end
end Go.Proofs.YtiodaahncadodaaGreatDoor
namespace Go.Proofs.YtiodaahncadodaaGreatDoor
open Go.RowKit
theorem zl3 {ns : List Nd} {w0 : World} {a0 : Option Addr} {c0 b : Nat} (hns : zbA w0 (.slice a0 ns.length c0) ns) (hm : Tre.zh3 ns = true) (hfew : Few ns) (hwb : w0.heap.size ≤ b) :
  ∀ f i,i < ns.length → ns.length - i ≤ f → zss ns w0 (.slice a0 ns.length c0) b i ∧ zqn ns w0 (.slice a0 ns.length c0) b i:=by
 intro f
 induction f with
 | zero=>intro i hi hf;omega
 | succ f ih =>
  intro i hi hf
  have hk : zqn ns w0 (.slice a0 ns.length c0) b i:=zqp hns hm hwb hi (fun k hik hkn=>(ih k hkn (by omega)).1)
  exact ⟨zqq hns hm hfew hwb hi hk,hk⟩
end Go.Proofs.YtiodaahncadodaaGreatDoor
namespace Go.Proofs.YtiodaahncadodaaGreatDoor
open Go.RowKit
theorem zk6 {b : Nat} {w : World} {nv : Value} {acc : List UInt8} (h : zf7 b w nv acc) (hl : acc.length ≤ 10000000000) :
  Calls Tryz.prog 43 #[.pointer (some ⟨b,1,none⟩)] w fun e w'=>e = .returned (.string (str acc)) ∧ Below b w w':=by
 have hbl:=h.lt
 have mixed : Tryz.prog.follows Departure.mixedOrders = true:=by kernel_rfl
 obtain ⟨p,v,hbk,hp,hown,hne⟩:=h
 have hbkd : w.drew.heap[b]? = some (.cells #[nv,p,v] 82 (0,0)):=hbk
 have c2:=Lib.cell_of_heap hbkd 2
 have c20:=Lib.cell_of_heap hbk 2
 have hBd : Below b w w.drew:=(Below.refl b w).drew
 by_cases h0 : acc = []
 ·subst h0
  have hUS:=fun (W : World) (q : Option Addr)=>Lib.run_unsafeString_none (P:=Tryz.prog) W 113 3 9 q
  have HE : Hid (str [] = ByteArray.empty):=rfl
  rcases hown.2 with ⟨rfl,_⟩ | ⟨g,cap,cur,fz,rfl,hbg,hg,hrest⟩
  ·have hSD : (Builtin.unsafeSliceData_ #[78] 113 #[.slice none 0 0]).run Tryz.prog w.drew = .ok (.pointer none) w.drew:=rfl
   have HB:=zaa hBd
   clear hbk hp hown hne hbkd hBd
   go_enter Tryz.func43,Tryz.ntmps43
   go_wp2
   go_region_o
   all_goals (go_wp2;go_ret;exact ⟨rfl,HB.out⟩)
  ·by_cases hc0 : cap = 0
   ·subst hc0
    have hgd : w.drew.heap[g]? = some (.cells cur 5 fz):=hg
    have hSD : (Builtin.unsafeSliceData_ #[78] 113 #[.slice (some ⟨g,0,none⟩) 0 0]).run Tryz.prog w.drew = .ok (.pointer (some ⟨w.drew.heap.size,0,none⟩)) (w.drew.alloc (.view ⟨g,0,none⟩ 5)) :=
     Lib.run_unsafeSliceData_zero w.drew _ _ 5 Tryz.underlying113 ⟨g,0,none⟩ 0 (5,cur.size) (by simp [World.shape?,hgd])
    have c5 : (w.drew.alloc (.view ⟨g,0,none⟩ 5)).cell? ⟨b,2,none⟩ = some (.slice (some ⟨g,0,none⟩) 0 0):=by
     have : (w.drew.alloc (.view ⟨g,0,none⟩ 5)).heap[b]? = _:=(Lib.alloc_old w.drew _ b hbl).trans hbkd
     rw [Lib.cell_of_heap this];rfl
    have c6 : (w.alloc (.view ⟨g,0,none⟩ 5)).drew.cell? ⟨b,2,none⟩ = some (.slice (some ⟨g,0,none⟩) 0 0):=c5
    have HB : Hid (Below b w (w.drew.alloc (.view ⟨g,0,none⟩ 5))):=hBd.alloc (Nat.le_of_lt hbl) _
    clear hbk hp hown hne hbkd hBd hrest hg hgd
    go_enter Tryz.func43,Tryz.ntmps43
    go_wp2
    go_region_o
    all_goals (go_wp2;go_ret;exact ⟨rfl,HB.out⟩)
   ·have hSD : (Builtin.unsafeSliceData_ #[78] 113 #[.slice (some ⟨g,0,none⟩) 0 cap]).run Tryz.prog w.drew = .ok (.pointer (some ⟨g,0,none⟩)) w.drew :=
     Lib.run_unsafeSliceData_row _ _ _ _ _ _ hc0
    have HB:=zaa hBd
    clear hbk hp hown hne hbkd hBd hrest hg hc0
    go_enter Tryz.func43,Tryz.ntmps43
    go_wp2
    go_region_o
    all_goals (go_wp2;go_ret;exact ⟨rfl,HB.out⟩)
 ·have hl0 : acc.length ≠ 0:=fun e=>h0 (List.length_eq_zero_iff.1 e)
  rcases hown.2 with ⟨_,hz⟩ | ⟨g,cap,cur,fz,rfl,hbg,hg,hfz,hnc,hcm,hcs,htake⟩
  ·exact absurd hz hl0
  ·have hgd : w.drew.heap[g]? = some (.cells cur 5 fz):=hg
   have hSD : (Builtin.unsafeSliceData_ #[78] 113 #[.slice (some ⟨g,0,none⟩) acc.length cap]).run Tryz.prog w.drew = .ok (.pointer (some ⟨g,0,none⟩)) w.drew :=
    Lib.run_unsafeSliceData_row _ _ _ _ _ _ (by omega)
   have hUS : (Builtin.unsafeString_ #[113,3] 9 #[.pointer (some ⟨g,0,none⟩),.int .i64 acc.length]).run Tryz.prog w.drew = .ok (.string ⟨acc.toArray⟩) (w.drew.freeze ⟨g,0,none⟩ acc.length):=by
    refine Lib.run_unsafeString_row w.drew 113 3 9 5 Tryz.underlying113 (by kernel_rfl) g cur.size (by simp [World.shape?,hgd]) acc h0 (by omega) (by unfold maxLen at hcm;omega) ?_
    intro j x hx
    exact hown.cells (g:=g) rfl j (.int .u8 x.toNat) (by simp [Lib.byteCells,hx])
   have HB : Hid (Below b w (w.drew.freeze ⟨g,0,none⟩ acc.length)):=Lib.below_freeze hBd (p:=⟨g,0,none⟩) hbg _
   clear hbk hp hown hne hbkd hBd hg hgd hfz hnc hcm hcs htake
   go_enter Tryz.func43,Tryz.ntmps43
   go_wp2
   go_region_o
   all_goals (go_wp2;go_ret;exact ⟨rfl,HB.out⟩)
end Go.Proofs.YtiodaahncadodaaGreatDoor
namespace Go.Proofs.YtiodaahncadodaaGreatDoor
open Go.RowKit
theorem zf7.fresh (w : World) (nv : Value) : zf7 w.heap.size (w.alloc (.cells #[nv,.pointer none,.slice none 0 0] 82)) nv [] :=
 ⟨_,_,zaf w _,.inl rfl,World.ownsRowF_nil _ _ _ _,by simp [Value.ownBlock]⟩
theorem zf8 {w : World} {b : Nat} {x : Value} (h : w.heap[b]? = some (.cells #[x] 26 (0,0))) : w.cell? ⟨b,0,none⟩ = some x:=Lib.cell_of_heap h 0
def zoD (w : World) (x : List UInt8 × Nat) (e : Ending) (w' : World) : Prop:=e = .returned (.tuple #[.string (str x.1),.int .i64 (x.2 : Int)]) ∧ Below w.heap.size w w'
theorem zoE (ns : List Nd) (v : Value) (w : World) (hv : zbA w v ns) (hn : ns.length ≤ 1000000000) (hat : ns.length ≤ 4096 → ∀ i,i < ns.length → (Tre.zaC ns i).attrs.length ≤ 1000000) (hfew : Few ns) (at_ : Int) :
  Calls Tryz.prog 20 #[.agg #[v],.int .i64 at_] w (zoD w (Tre.zq9 ns at_)):=by
 obtain ⟨a,c,rfl⟩:=hv.form
 have hb0 : Below w.heap.size w (w.alloc (.cells #[.slice a ns.length c] 26)):=(Below.refl _ _).alloc (Nat.le_refl _) _
 have hh:=zaf w (.cells #[.slice a ns.length c] 26)
 have cc0:=zf8 hh
 have HM:=zaa (zj1 ns _ _ (hv.below hb0) hn hat)
 have HV:=zaa hv
 have HB0:=zaa hb0
 have hsz : (w.alloc (.cells #[.slice a ns.length c] 26)).heap.size = w.heap.size + 1:=by simp
 have hmf : ∀ (fn : Fn) (first cap : Array Value) (w : World),(Instr.makeFunc fn first cap).run Tryz.prog w = .ok (.func fn first cap) w:=fun _ _ _ _=>rfl
 clear hv hb0 hat
 by_cases h1 : at_ < 0
 ·have HX : Hid (Tre.zq9 ns at_ = ([],5)):=if_neg (fun h=>by omega)
  go_enter Tryz.func20,Tryz.ntmps20
  go_wp2
  go_ret2
  exact ⟨by rw [HX.out];rfl,HB0.out⟩
 by_cases h2 : (ns.length : Int) ≤ at_
 ·have HX : Hid (Tre.zq9 ns at_ = ([],5)):=if_neg (fun h=>by omega)
  go_enter Tryz.func20,Tryz.ntmps20
  go_wp2
  go_ret2
  exact ⟨by rw [HX.out];rfl,HB0.out⟩
 cases hm : Tre.zh3 ns
 ·have HX : Hid (Tre.zq9 ns at_ = ([],5)):=if_neg (fun h=>by rw [hm] at h;cases h.1)
  rw [hm] at HM
  clear hm
  go_enter Tryz.func20,Tryz.ntmps20
  go_wp2_with (go_at_call 15;refine HM.out.mono ?_;rintro e w1 ⟨rfl,b1⟩;have HQ:=zaa (bel HB0.out b1))
  go_ret2
  exact ⟨by rw [HX.out];rfl,HQ.out⟩
 ·obtain ⟨i,rfl⟩ : ∃ i : Nat,at_ = (i : Int):=⟨at_.toNat,by omega⟩
  have hi : i < ns.length:=by omega
  obtain ⟨g,o,aa,ac,ka,kc,rfl,hcc,hr⟩:=HV.out.at hi
  have hX : Tre.zq9 ns (i : Int) = if (Tre.zgT ns i).length ≤ 262144 then (Tre.zgT ns i,0) else ([],5):=by
   unfold Tre.zq9
   rw [if_pos ⟨hm,by omega,by omega⟩,Int.toNat_natCast]
  rw [hm] at HM
  have HMay:=zaa hm
  have HX:=zaa hX
  have HR:=zaa hr
  have HFew:=zaa hfew
  have HH:=zaa hh
  clear hm hX hr hfew hh
  go_enter Tryz.func20,Tryz.ntmps20
  go_upto_region 3 with (go_at_call 15;refine HM.out.mono ?_;rintro e w1 ⟨rfl,b1⟩)
  have hb1:=bel HB0.out b1
  have hd1:=(b1.block w.heap.size (by omega)).trans HH.out
  have cd:=zf8 hd1
  have hv1:=HV.out.below hb1
  have hr1:=HR.out.below hb1
  have HC:=zaa (zl3 hv1 HMay.out HFew.out (Nat.le_refl w1.heap.size) ns.length i hi (Nat.sub_le ..))
  have hdl : w.heap.size < w1.heap.size:=(Array.getElem?_eq_some_iff.1 hd1).1
  go_upto_region 4 with fail
  have hbA : Below w1.heap.size w1 (w1.alloc (.cells #[.slice (some ⟨g,o,none⟩) ns.length c,.pointer none,.slice none 0 0] 82)):=(Below.refl _ _).alloc (Nat.le_refl _) _
  have hW0:=zf7.fresh w1 (.slice (some ⟨g,o,none⟩) ns.length c)
  have cd2:=(hbA.cell (p:=⟨w.heap.size,0,none⟩) hdl).trans cd
  have ck2:=(hbA.cell (p:=⟨g,o + i * 6,none⟩) (zaK hr1.c0)).trans hr1.c0
  have HB2:=zaa (hb1.trans (hbA.mono hb1.size))
  have HSZ:=zaa hb1.size
  have HN:=zaa (HC.out.1 _ [] hW0 hbA (by simp))
  have HK:=zaa (HC.out.2 _ [] hW0 hbA (by simp))
  generalize (w1.alloc (.cells #[.slice (some ⟨g,o,none⟩) ns.length c,.pointer none,.slice none 0 0] 82)) = W2 at *
  clear hbA hW0 hb1 hd1 cd hv1 hr1 hdl b1 HC HR HV HB0 HH HM HMay HFew
  generalize w1.heap.size = b at *
  by_cases h3 : (Tre.zaC ns i).kind = 3
  ·have HE : Hid (Tre.zgT ns i = Tre.zcr ns i):=if_pos h3
   rw [h3] at ck2
   clear h3 HK
   generalize Tre.zcr ns i = X at *
   by_cases hf : X.length ≤ 262144
   ·have HF:=zaa hf
    have HX2 : Hid (Tre.zq9 ns (i : Int) = (X,0)):=by
     show _ = _
     rw [HX.out,HE.out,if_pos hf]
    have HD : Hid (decide (([] : List UInt8).length + X.length ≤ 262144) = true):=decide_eq_true (by rw [List.length_nil,Nat.zero_add];exact hf)
    clear hf
    go_wp2_with (first
     | (go_at_call 42;refine HN.out.mono ?_;rintro e w3 ⟨rfl,b3,k3⟩;rw [HD.out];have HW3:=zaa (k3 (by rw [List.length_nil,Nat.zero_add];exact HF.out));have HB3:=zaa b3.bel;clear b3 k3 HN)
     | (go_at_call 43;refine (zk6 HW3.out (by rw [List.nil_append];have:=HF.out;omega)).mono ?_;rintro e w4 ⟨rfl,b4⟩;have HB4:=zaa b4))
    go_ret2
    rw [HX2.out]
    refine ⟨rfl,HB2.out.trans ((HB3.out.mono HSZ.out).trans (HB4.out.mono HSZ.out))⟩
   ·have HX2 : Hid (Tre.zq9 ns (i : Int) = ([],5)):=by
     show _ = _
     rw [HX.out,HE.out,if_neg hf]
    have HD : Hid (decide (([] : List UInt8).length + X.length ≤ 262144) = false):=decide_eq_false (by rw [List.length_nil,Nat.zero_add];exact hf)
    clear hf
    go_wp2_with (first
     | (go_at_call 42;refine HN.out.mono ?_;rintro e w3 ⟨rfl,b3,k3⟩;rw [HD.out];have HB3:=zaa b3.bel;clear b3 k3 HN))
    go_ret2
    rw [HX2.out]
    exact ⟨rfl,HB2.out.trans (HB3.out.mono HSZ.out)⟩
  ·have HE : Hid (Tre.zgT ns i = Tre.zn8 ns i):=if_neg h3
   have q3 : ((Tre.zaC ns i).kind == (3 : Int)) = false:=by rw [beq_eq_false_iff_ne];exact h3
   clear h3 HN
   generalize (Tre.zaC ns i).kind = kd at *
   generalize Tre.zn8 ns i = X at *
   by_cases hf : X.length ≤ 262144
   ·have HF:=zaa hf
    have HX2 : Hid (Tre.zq9 ns (i : Int) = (X,0)):=by
     show _ = _
     rw [HX.out,HE.out,if_pos hf]
    have HD : Hid (decide (([] : List UInt8).length + X.length ≤ 262144) = true):=decide_eq_true (by rw [List.length_nil,Nat.zero_add];exact hf)
    clear hf
    go_wp2_with (first
     | (go_at_call 41;refine HK.out.mono ?_;rintro e w3 ⟨rfl,b3,k3⟩;rw [HD.out];have HW3:=zaa (k3 (by rw [List.length_nil,Nat.zero_add];exact HF.out));have HB3:=zaa b3.bel;clear b3 k3 HK)
     | (go_at_call 43;refine (zk6 HW3.out (by rw [List.nil_append];have:=HF.out;omega)).mono ?_;rintro e w4 ⟨rfl,b4⟩;have HB4:=zaa b4))
    go_ret2
    rw [HX2.out]
    refine ⟨rfl,HB2.out.trans ((HB3.out.mono HSZ.out).trans (HB4.out.mono HSZ.out))⟩
   ·have HX2 : Hid (Tre.zq9 ns (i : Int) = ([],5)):=by
     show _ = _
     rw [HX.out,HE.out,if_neg hf]
    have HD : Hid (decide (([] : List UInt8).length + X.length ≤ 262144) = false):=decide_eq_false (by rw [List.length_nil,Nat.zero_add];exact hf)
    clear hf
    go_wp2_with (first
     | (go_at_call 41;refine HK.out.mono ?_;rintro e w3 ⟨rfl,b3,k3⟩;rw [HD.out];have HB3:=zaa b3.bel;clear b3 k3 HK))
    go_ret2
    rw [HX2.out]
    exact ⟨rfl,HB2.out.trans (HB3.out.mono HSZ.out)⟩
end Go.Proofs.YtiodaahncadodaaGreatDoor
