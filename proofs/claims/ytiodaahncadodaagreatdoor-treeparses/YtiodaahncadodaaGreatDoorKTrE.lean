/- The contract of the reference's Next. -/
import Derived.Test.YtiodaahncadodaaGreatDoorKTrCD
import Derived.Test.YtiodaahncadodaaGreatDoorKRfRt
set_option maxRecDepth 100000
set_option maxHeartbeats 20000000
set_option linter.unusedVariables false
set_option linter.unusedSimpArgs false
namespace Tk
open Asc
theorem upto_next (s : List UInt8) (k : Nat) (h : k < s.length) (hb : zca (s.drop k) = false) : zhp (s.drop k) = 1 + zhp (s.drop (k + 1)):=by
 rw [List.drop_eq_getElem_cons h] at hb ⊢
 rw [zhp,hb]
 simp [Nat.add_comm]
theorem upto_here (s : List UInt8) (k : Nat) (h : k < s.length) (hb : zca (s.drop k) = true) : zhp (s.drop k) = 0:=by
 rw [List.drop_eq_getElem_cons h] at hb ⊢
 rw [zhp,hb]
 rfl
theorem next_plain (s : List UInt8) (h0 : s ≠ []) (h : zca s = false) : next s = (zb2 (Rf.dec false (s.take (zhp s))),zhp s):=by
 unfold next
 rw [if_neg h0,if_pos h]
end Tk
namespace Go.Proofs.YtiodaahncadodaaGreatDoor
open Go.RowKit
theorem zkk {s : List UInt8} (h : s ≠ []) : ((str s).toList.isEmpty) = false:=by
 rw [zaE]
 cases s with
 | nil=>exact absurd rfl h
 | cons c t=>rfl
theorem zmc (s : List UInt8) (h : Tk.zca s = true) (hl : Tk.zd1 (s.drop 1) = true) : Tk.next s = if zmb s 1 = 0 then (Tk.zero,s.length) else ((zcU (s.drop 1)).1,zmb s 1):=by
 have h0 : s ≠ []:=by rintro rfl;cases h
 have h2:=Tk.zmQ s h
 unfold Tk.next
 rw [if_neg h0,if_neg (by rw [h];simp),if_pos hl]
 unfold zmb zcU
 cases he : Tk.tag (s.drop 1) with
 | none=>rfl
 | some x =>
  obtain ⟨k,r⟩:=x
  have:=Tk.zqW _ k r he
  rw [List.length_drop] at this
  simp only
  rw [if_neg (by omega)]
theorem zqC (s : List UInt8) (h : Tk.zca s = true) (hl : Tk.zd1 (s.drop 1) = false) (hd : (s.drop 1).head? = some 47) (he : Tk.zd1 (s.drop 2) = true) : Tk.next s = if zmb s 2 = 0 then (Tk.zero,s.length) else (⟨2,(zcU (s.drop 2)).1.name,[],false,[]⟩,zmb s 2):=by
 have h0 : s ≠ []:=by rintro rfl;cases h
 have h2:=Tk.zmQ s h
 unfold Tk.next
 rw [if_neg h0,if_neg (by rw [h];simp),if_neg (by rw [hl];simp),if_pos ⟨hd,he⟩]
 unfold zmb zcU
 cases he : Tk.tag (s.drop 2) with
 | none=>rfl
 | some x =>
  obtain ⟨k,r⟩:=x
  have:=Tk.zqW _ k r he
  rw [List.length_drop] at this
  simp only
  rw [if_neg (by omega)]
theorem zo3 (s : List UInt8) (h : Tk.zca s = true) (hl : Tk.zd1 (s.drop 1) = false) (hd : ¬ ((s.drop 1).head? = some 47 ∧ Tk.zd1 (s.drop 2) = true)) : Tk.next s = if Tk.zkD [60,33,45,45] s = true then (⟨4,[],[],false,(s.drop 4).take (Tk.fd [45,45,62] (s.drop 4))⟩,min (Tk.fd [45,45,62] (s.drop 4) + 7) s.length) else if Tk.zkD Tk.zrG s = true then (⟨5,[],[],false,[]⟩,min (Tk.fd [62] (s.drop 2) + 3) s.length) else (⟨4,[],[],false,(s.drop 2).take (Tk.fd [62] (s.drop 2))⟩,min (Tk.fd [62] (s.drop 2) + 3) s.length):=by
 have h0 : s ≠ []:=by rintro rfl;cases h
 unfold Tk.next
 rw [if_neg h0,if_neg (by rw [h];simp),if_neg (by rw [hl];simp),if_neg hd]
theorem zmd (s : List UInt8) (w : World) (hz : s.length ≤ 1000000) :
  Calls Tryz.prog 47 #[.string (str s)] w (zbu w (Tk.next s).1 (Tk.next s).2):=by
 have hzt:=(zero_of_info zoT).1
 have hsz:=zad s
 have hb0 : Below w.heap.size w (w.alloc (.cells kCells0 48)):=(Below.refl _ w).alloc (Nat.le_refl _) _
 have ha0 : zbb (w.alloc (.cells kCells0 48)) w.heap.size kCells0:=zaf w _
 by_cases hs : s = []
 ·subst hs
  have hne : ((str ([] : List UInt8)).toList.isEmpty) = true:=by rw [zaE];rfl
  go_enter Tryz.func47,Tryz.ntmps47
  go_wp2_with ((with_reducible show wpList _ _ _ ({ op:=Op.store 48 _ _,.. } :: _) _ _);refine zaA _ _ rfl rfl w.heap.size _ rfl 0 ByteArray.empty ByteArray.empty false none 0 0 rfl rfl ha0 ?_)
  refine zcp rfl rfl rfl rfl (zbg ha0) ?_
  exact ⟨none,0,0,rfl,zbd.nil _ _ _,hb0.trans ((zah _ _ _).below _ (Nat.le_refl _) hb0.size)⟩
 have hne:=zkk hs
 have hIT:=zg8 s
 have HA0:=zaa ha0
 have HB0:=zaa hb0
 clear ha0 hb0
 cases ht : Tk.zca s
 ·rw [ht] at hIT
  have HX:=zaa (Tk.next_plain s hs ht)
  have hpos : 1 ≤ s.length:=by cases s <;> simp at hs ⊢
  have hu1 : Tk.zhp s = 1 + Tk.zhp (s.drop 1):=by
   have:=Tk.upto_next s 0 hpos (by rw [List.drop_zero];exact ht)
   rwa [List.drop_zero] at this
  obtain ⟨N,hN⟩ : ∃ N,Tk.zhp s = N:=⟨_,rfl⟩
  have hNl:=Tk.zmP s
  have HU:=zaa hu1
  rw [hN] at HX HU hNl
  have hcut:=zbx s N
  have HDe:=zaa (fun W=>zbU (s.take N) false W (by rw [List.length_take];omega))
  clear hu1 hN ht hs
  generalize s.take N = u at *
  generalize Rf.dec false u = v at *
  go_enter Tryz.func47,Tryz.ntmps47
  go_upto_block 1 with (go_at_call 73;refine (hIT _).mono ?_;rintro e w1 ⟨rfl,hw⟩;rw [hw];clear hw)
  generalize (w.alloc (.cells kCells0 48)) = W0 at *
  go_cut [4] from 20 to 32 (fun x w'=>x = Value.int .i64 N ∧ w' = W0)
  case first =>
   go_wp2_with fail
   go_loopw [4] (fun x wr=>∃ k : Nat,x = .int .i64 k ∧ 1 ≤ k ∧ k ≤ s.length ∧ Hid (N = k + Tk.zhp (s.drop k)) ∧ wr = W0) (fun x _=>s.length - (intOf x).toNat)
   case atStart=>exact ⟨1,rfl,Nat.le_refl _,hpos,HU.out,rfl⟩
   case round =>
    obtain ⟨k,rfl,hk1,hk,HE,rfl⟩:=hrel
    by_cases hlt : k < s.length
    ·have hdr:=zax s k
     have hT:=zg8 (s.drop k)
     cases hb : Tk.zca (s.drop k)
     ·rw [hb] at hT
      have HN : Hid (N = k + 1 + Tk.zhp (s.drop (k + 1))):=by
       show N = _
       have h1:=HE.out
       rw [Tk.upto_next s k hlt hb] at h1
       omega
      clear HE hb
      generalize s.drop k = r at *
      go_wp2_with (go_at_call 73;(try rw [hdr]);refine (hT _).mono ?_;rintro e w1 ⟨rfl,hw⟩;rw [hw];clear hw)
      go_roundw
      case rel=>exact ⟨k + 1,by go_num,by omega,by omega,HN.out,by trivial⟩
      case measure=>simp [intOf];omega
     ·rw [hb] at hT
      have HN : Hid (N = k):=by
       show N = _
       have h1:=HE.out
       rw [Tk.upto_here s k hlt hb] at h1
       omega
      clear HE hb
      generalize s.drop k = r at *
      go_wp2_with (go_at_call 73;(try rw [hdr]);refine (hT _).mono ?_;rintro e w1 ⟨rfl,hw⟩;rw [hw];clear hw)
      go_meet
      case rel=>exact ⟨by rw [HN.out],rfl⟩
    ·have HN : Hid (N = k):=by
      show N = _
      have h1:=HE.out
      rw [List.drop_eq_nil_of_le (by omega)] at h1
      exact h1
     clear HE
     go_wp2
     go_meet
     case rel=>exact ⟨by rw [HN.out],rfl⟩
  case rest =>
   obtain ⟨rfl,he⟩:=hcut
   replace he:=he.symm
   subst he
   clear hIT HU
   go_wp2_with (first
    | (go_at_call 50;(try rw [hcut]);refine (HDe.out _).mono ?_;rintro e w5 ⟨rfl,hb5⟩;have A5:=zaa (HA0.out.step hb5);have B5:=zaa (HB0.out.trans (hb5.mono HB0.out.size));clear hb5)
    | ((with_reducible show wpList _ _ _ ({ op:=Op.store 48 _ _,.. } :: _) _ _);refine zaA _ _ rfl rfl w.heap.size _ rfl 3 ByteArray.empty (str v) false none 0 0 rfl rfl A5.out ?_))
   refine zcp rfl rfl rfl rfl (zbg A5.out) ?_
   unfold zbu
   rw [HX.out]
   exact ⟨none,0,0,rfl,zbd.nil _ _ _,B5.out.trans ((zah _ _ _).below _ (Nat.le_refl _) B5.out.size)⟩
 ·obtain ⟨d,t,rfl,-⟩:=Tk.tag_front s ht
  rw [ht] at hIT
  have hlen : (60 :: d :: t).length = t.length + 2:=rfl
  rw [hlen] at hsz hz
  have hd1 : ∀ h,(str (60 :: d :: t))[1]'h = d:=fun _=>rfl
  have hL:=fun w=>zbF d w
  have HLd : Hid (Tk.zd1 ((60 :: d :: t).drop 1) = Rf.letZ (Asc.bt d)):=rfl
  cases hld : Rf.letZ (Asc.bt d)
  ·rw [hld] at hL HLd
   by_cases h47 : ∃ e t',d = 47 ∧ t = e :: t' ∧ Rf.letZ (Asc.bt e) = true
   ·obtain ⟨e0,t',rfl,rfl,hle⟩:=h47
    have hd2 : ∀ h,(str (60 :: 47 :: e0 :: t'))[2]'h = e0:=fun _=>rfl
    have hL2:=fun w=>zbF e0 w
    rw [hle] at hL2
    have q47 : (((47 : UInt8).toNat : Int) == 47) = true:=rfl
    have HX:=zaa (zqC (60 :: 47 :: e0 :: t') ht HLd.out rfl (show Rf.letZ (Asc.bt e0) = true from hle))
    have HTag:=zaa (fun W=>zlf (60 :: 47 :: e0 :: t') 2 W (by simp) hz)
    have hl3 : (2 : Int) < (((e0 :: t').length + 2 : Nat) : Int):=by rw [List.length_cons];omega
    have hlI : (60 :: 47 :: e0 :: t').length = (e0 :: t').length + 2:=rfl
    rw [hlI] at HX
    unfold zer at HTag
    generalize zcU ((60 :: 47 :: e0 :: t').drop 2) = q at *
    generalize zmb (60 :: 47 :: e0 :: t') 2 = N at *
    obtain ⟨⟨kk,kn,ka,ksf,kx⟩,r⟩:=q
    clear ht hs hle hld HLd hlen hlI
    simp only at HX
    by_cases hN0 : N = 0
    ·subst hN0
     rw [if_pos rfl] at HX
     generalize (e0 :: t').length = L at *
     go_enter Tryz.func47,Tryz.ntmps47
     go_wp2_with (first
      | (go_at_call 73;refine (hIT _).mono ?_;rintro e w1 ⟨rfl,hw⟩;rw [hw];clear hw hIT)
      | (go_at_call 74;refine (hL _).mono ?_;rintro e w1 ⟨rfl,hw⟩;rw [hw];clear hw hL)
      | (go_at_call 74;refine (hL2 _).mono ?_;rintro e w1 ⟨rfl,hw⟩;rw [hw];clear hw hL2)
      | (go_at_call 75;refine (HTag.out _).mono ?_;rintro e w5 ⟨ad,ln,cp,rfl,o5,hb5⟩;have A5:=HA0.out.step hb5;have B5:=HB0.out.trans (hb5.mono HB0.out.size);have hb6 : Below w5.heap.size w5 (w5.alloc (.cells (zak kk kn (.slice ad ln cp) ksf kx) 48)):=(Below.refl _ _).alloc (Nat.le_refl _) _;have A6:=zaa (A5.step hb6);have B6:=zaa (bel B5 hb6);have T6 : Hid (zbb (w5.alloc (.cells (zak kk kn (.slice ad ln cp) ksf kx) 48)) w5.heap.size (zak kk kn (.slice ad ln cp) ksf kx)):=zaf w5 _;have O6:=zaa (zbd.mono (B:=w.heap.size + 1) (zbd.below o5 hb6) (by have:=HA0.out.lt;omega));have t61:=Lib.cell_of_heap T6.out 1;clear A5 B5 hb5 hb6 o5)
      | ((with_reducible show wpList _ _ _ ({ op:=Op.load 48 _,.. } :: _) _ _);refine zaD _ rfl rfl w5.heap.size _ _ _ _ _ rfl T6.out ?_)
      | ((with_reducible show wpList _ _ _ ({ op:=Op.store 48 _ _,.. } :: _) _ _);refine zaA _ _ rfl rfl w.heap.size _ rfl 0 ByteArray.empty ByteArray.empty false none 0 0 rfl rfl A6.out ?_))
     refine zcp rfl rfl rfl rfl (zbg A6.out) ?_
     unfold zbu
     rw [HX.out]
     exact ⟨none,0,0,rfl,zbd.nil _ _ _,B6.out.trans ((zah _ _ _).below _ (Nat.le_refl _) B6.out.size)⟩
    ·rw [if_neg hN0] at HX
     have qN : ((N : Int) == 0) = false:=by rw [beq_eq_false_iff_ne];omega
     generalize (e0 :: t').length = L at *
     clear hN0
     go_enter Tryz.func47,Tryz.ntmps47
     go_wp2_with (first
      | (go_at_call 73;refine (hIT _).mono ?_;rintro e w1 ⟨rfl,hw⟩;rw [hw];clear hw hIT)
      | (go_at_call 74;refine (hL _).mono ?_;rintro e w1 ⟨rfl,hw⟩;rw [hw];clear hw hL)
      | (go_at_call 74;refine (hL2 _).mono ?_;rintro e w1 ⟨rfl,hw⟩;rw [hw];clear hw hL2)
      | (go_at_call 75;refine (HTag.out _).mono ?_;rintro e w5 ⟨ad,ln,cp,rfl,o5,hb5⟩;have A5:=HA0.out.step hb5;have B5:=HB0.out.trans (hb5.mono HB0.out.size);have hb6 : Below w5.heap.size w5 (w5.alloc (.cells (zak kk kn (.slice ad ln cp) ksf kx) 48)):=(Below.refl _ _).alloc (Nat.le_refl _) _;have A6:=zaa (A5.step hb6);have B6:=zaa (bel B5 hb6);have T6 : Hid (zbb (w5.alloc (.cells (zak kk kn (.slice ad ln cp) ksf kx) 48)) w5.heap.size (zak kk kn (.slice ad ln cp) ksf kx)):=zaf w5 _;have O6:=zaa (zbd.mono (B:=w.heap.size + 1) (zbd.below o5 hb6) (by have:=HA0.out.lt;omega));have t61:=Lib.cell_of_heap T6.out 1;clear A5 B5 hb5 hb6 o5)
      | ((with_reducible show wpList _ _ _ ({ op:=Op.load 48 _,.. } :: _) _ _);refine zaD _ rfl rfl w5.heap.size _ _ _ _ _ rfl T6.out ?_)
      | ((with_reducible show wpList _ _ _ ({ op:=Op.store 48 _ _,.. } :: _) _ _);refine zaA _ _ rfl rfl w.heap.size _ rfl 2 (str kn) ByteArray.empty false none 0 0 rfl rfl A6.out ?_))
     refine zcp rfl rfl rfl rfl (zbg A6.out) ?_
     unfold zbu
     rw [HX.out]
     exact ⟨none,0,0,rfl,zbd.nil _ _ _,B6.out.trans ((zah _ _ _).below _ (Nat.le_refl _) B6.out.size)⟩
   ·have hnd : ¬ (((60 :: d :: t).drop 1).head? = some 47 ∧ Tk.zd1 ((60 :: d :: t).drop 2) = true):=by
     rintro ⟨e1,e2⟩
     have e3 : d = 47:=by simpa using e1
     have e4 : Tk.zd1 t = true:=e2
     cases t with
     | nil=>cases e4
     | cons x y=>exact h47 ⟨x,y,e3,rfl,e4⟩
    have HX0:=zo3 (60 :: d :: t) ht HLd.out hnd
    have HB1:=zaa (fun W=>zbG (60 :: d :: t) [60,33,45,45] W (by simp only [List.length_cons];omega) (by decide))
    clear hnd HLd hld
    by_cases hd47 : d = 47
    ·subst hd47
     have q47 : (((47 : UInt8).toNat : Int) == 47) = true:=rfl
     have hlnI : (60 :: 47 :: t).length = t.length + 2:=rfl
     cases t with
     | nil =>
      have hpre : Tk.zkD [60,33,45,45] (60 :: 47 :: ([] : List UInt8)) = false:=by decide +kernel
      have hdoc : Tk.zkD Tk.zrG (60 :: 47 :: ([] : List UInt8)) = false:=by decide +kernel
      rw [if_neg (by rw [hpre];simp),if_neg (by rw [hdoc];simp)] at HX0
      have HX : Hid (Tk.next (60 :: 47 :: ([] : List UInt8)) = (⟨4,[],[],false,[]⟩,2)):=HX0.trans rfl
      have HB2:=zaa (fun W=>zbG (60 :: 47 :: ([] : List UInt8)) Tk.zrG W (by decide) (by decide))
      rw [hpre] at HB1
      rw [hdoc] at HB2
      have HB2c : Hid (∀ W,Calls Tryz.prog 76 #[.string (str (60 :: 47 :: ([] : List UInt8))),.string ⟨#[60,33,100,111,99,116,121,112,101]⟩] W fun e w'=>e = .returned (.bool false) ∧ Below W.heap.size W w'):=HB2.out
      have hB1 : Hid (∀ W,Calls Tryz.prog 76 #[.string (str (60 :: 47 :: ([] : List UInt8))),.string ⟨#[60,33,45,45]⟩] W fun e w'=>e = .returned (.bool false) ∧ Below W.heap.size W w'):=HB1.out
      have hF : Hid (∀ W,Calls Tryz.prog 77 #[.string ByteArray.empty,.string ⟨#[62]⟩] W fun e w'=>e = .returned (.int .i64 0) ∧ w' = W):=fun W=>zbP [] [62] W (by decide) (by decide) (by decide)
      have hsz2 : (str (60 :: 47 :: ([] : List UInt8))).size = 2:=zad _
      have hee : (str (60 :: 47 :: ([] : List UInt8))).extract 2 2 = ByteArray.empty:=zax (60 :: 47 :: ([] : List UInt8)) 2
      clear hsz hlnI h47 HB1 HB2 hpre hdoc HX0 hs hlen ht
      go_enter Tryz.func47,Tryz.ntmps47
      go_wp2_with (first
       | (go_at_call 73;refine (hIT _).mono ?_;rintro e w1 ⟨rfl,hw⟩;rw [hw];clear hw hIT)
       | (go_at_call 74;refine (hL _).mono ?_;rintro e w1 ⟨rfl,hw⟩;rw [hw];clear hw hL)
       | (go_at_call 76;refine (hB1.out _).mono ?_;rintro e w4 ⟨rfl,hb4⟩;have A4:=zaa (HA0.out.step hb4);have B4:=zaa (HB0.out.trans (hb4.mono HB0.out.size));clear hb4 hB1)
       | (go_at_call 77;(try rw [hee]);refine (hF.out _).mono ?_;rintro e w1 ⟨rfl,hw⟩;rw [hw];clear hw hF)
       | (go_at_call 76;refine (HB2c.out _).mono ?_;rintro e w5 ⟨rfl,hb5⟩;have A5:=zaa (A4.out.step hb5);have B5:=zaa (bel B4.out hb5);clear hb5)
       | ((with_reducible show wpList _ _ _ ({ op:=Op.store 48 _ _,.. } :: _) _ _);refine zaA _ _ rfl rfl w.heap.size _ rfl 4 ByteArray.empty ByteArray.empty false none 0 0 rfl rfl A5.out ?_))
      refine zcp rfl rfl rfl rfl (zbg A5.out) ?_
      unfold zbu
      rw [HX.out]
      exact ⟨none,0,0,(by first | rfl | simp),zbd.nil _ _ _,B5.out.trans ((zah _ _ _).below _ (Nat.le_refl _) B5.out.size)⟩
     | cons e0 t2 =>
      have HX:=zaa HX0
      obtain ⟨L,hLe⟩ : ∃ L,(60 :: 47 :: e0 :: t2).length = L:=⟨_,rfl⟩
      have hszL : (str (60 :: 47 :: e0 :: t2)).size = L:=by rw [← hLe];exact zad _
      have hzL : L ≤ 1000000:=by rw [← hLe];simp only [List.length_cons] at hz ⊢;omega
      have hL2l : 3 ≤ L:=by rw [← hLe];simp only [List.length_cons];omega
      rw [hLe] at HX
      clear HX0 hs hlen ht
      have hle : Rf.letZ (Asc.bt e0) = false:=by
       cases hle : Rf.letZ (Asc.bt e0)
       ·rfl
       ·exact absurd ⟨e0,t2,rfl,rfl,hle⟩ h47
      have hd2 : ∀ h,(str (60 :: 47 :: e0 :: t2))[2]'h = e0:=fun _=>rfl
      have hL2:=fun w=>zbF e0 w
      rw [hle] at hL2
      clear hsz hlnI hle h47
      cases hpre : Tk.zkD [60,33,45,45] (60 :: 47 :: e0 :: t2)
      ·cases hdoc : Tk.zkD Tk.zrG (60 :: 47 :: e0 :: t2)
       ·have hdr2:=zax (60 :: 47 :: e0 :: t2) 2
        rw [hLe] at hdr2
        rw [if_neg (by rw [hpre];simp)] at HX
        rw [hpre] at HB1
        have hfl:=zfD [62] ((60 :: 47 :: e0 :: t2).drop 2)
        have hF:=zaa (fun W=>zbP ((60 :: 47 :: e0 :: t2).drop 2) [62] W (by rw [List.length_drop,hLe];omega) (by decide) (by decide))
        obtain ⟨F,hFe⟩ : ∃ F,Tk.fd [62] ((60 :: 47 :: e0 :: t2).drop 2) = F:=⟨_,rfl⟩
        rw [hFe] at hfl HX hF
        have hmid:=zbp (60 :: 47 :: e0 :: t2) 2 (2 + F)
        rw [List.drop_take,Nat.add_sub_cancel_left] at hmid
        rw [List.length_drop,hLe] at hfl
        have HB2:=zaa (fun W=>zbG (60 :: 47 :: e0 :: t2) Tk.zrG W (by rw [hLe];omega) (by decide))
        generalize ((60 :: 47 :: e0 :: t2).drop 2).take F = u at *
        generalize (60 :: 47 :: e0 :: t2).drop 2 = r2 at *
        rw [if_neg (by rw [hdoc];simp)] at HX
        rw [hdoc] at HB2
        have HB2c : Hid (∀ W,Calls Tryz.prog 76 #[.string (str (60 :: 47 :: e0 :: t2)),.string ⟨#[60,33,100,111,99,116,121,112,101]⟩] W fun e w'=>e = .returned (.bool false) ∧ Below W.heap.size W w'):=HB2.out
        clear HB2
        have hB1 : Hid (∀ W,Calls Tryz.prog 76 #[.string (str (60 :: 47 :: e0 :: t2)),.string ⟨#[60,33,45,45]⟩] W fun e w'=>e = .returned (.bool false) ∧ Below W.heap.size W w'):=HB1.out
        clear HB1 hpre hFe hLe
        go_enter Tryz.func47,Tryz.ntmps47
        go_wp2_with (first
         | (go_at_call 73;refine (hIT _).mono ?_;rintro e w1 ⟨rfl,hw⟩;rw [hw];clear hw hIT)
         | (go_at_call 74;refine (hL _).mono ?_;rintro e w1 ⟨rfl,hw⟩;rw [hw];clear hw hL)
         | (go_at_call 74;refine (hL2 _).mono ?_;rintro e w1 ⟨rfl,hw⟩;rw [hw];clear hw hL2)
         | (go_at_call 76;refine (hB1.out _).mono ?_;rintro e w4 ⟨rfl,hb4⟩;have A4:=zaa (HA0.out.step hb4);have B4:=zaa (HB0.out.trans (hb4.mono HB0.out.size));clear hb4 hB1)
         | (go_at_call 77;(try rw [hdr2]);refine (hF.out _).mono ?_;rintro e w1 ⟨rfl,hw⟩;rw [hw];clear hw hF)
         | (go_at_call 76;refine (HB2c.out _).mono ?_;rintro e w5 ⟨rfl,hb5⟩;have A5:=zaa (A4.out.step hb5);have B5:=zaa (bel B4.out hb5);clear hb5)
         | ((with_reducible show wpList _ _ _ ({ op:=Op.store 48 _ _,.. } :: _) _ _);refine zaA _ _ rfl rfl w.heap.size _ rfl 4 ByteArray.empty (str u) false none 0 0 rfl rfl A5.out ?_))
        refine zcp rfl rfl rfl rfl (zbg A5.out) ?_
        unfold zbu
        rw [HX.out]
        exact ⟨none,0,0,(by rw [show ((min (F + 3) (L) : Nat) : Int) = min ((F : Int) + 3) ((L : Int)) from by omega];rfl),zbd.nil _ _ _,B5.out.trans ((zah _ _ _).below _ (Nat.le_refl _) B5.out.size)⟩
       ·have hdr2:=zax (60 :: 47 :: e0 :: t2) 2
        rw [hLe] at hdr2
        rw [if_neg (by rw [hpre];simp)] at HX
        rw [hpre] at HB1
        have hfl:=zfD [62] ((60 :: 47 :: e0 :: t2).drop 2)
        have hF:=zaa (fun W=>zbP ((60 :: 47 :: e0 :: t2).drop 2) [62] W (by rw [List.length_drop,hLe];omega) (by decide) (by decide))
        obtain ⟨F,hFe⟩ : ∃ F,Tk.fd [62] ((60 :: 47 :: e0 :: t2).drop 2) = F:=⟨_,rfl⟩
        rw [hFe] at hfl HX hF
        have hmid:=zbp (60 :: 47 :: e0 :: t2) 2 (2 + F)
        rw [List.drop_take,Nat.add_sub_cancel_left] at hmid
        rw [List.length_drop,hLe] at hfl
        have HB2:=zaa (fun W=>zbG (60 :: 47 :: e0 :: t2) Tk.zrG W (by rw [hLe];omega) (by decide))
        generalize ((60 :: 47 :: e0 :: t2).drop 2).take F = u at *
        generalize (60 :: 47 :: e0 :: t2).drop 2 = r2 at *
        rw [if_pos hdoc] at HX
        rw [hdoc] at HB2
        have HB2c : Hid (∀ W,Calls Tryz.prog 76 #[.string (str (60 :: 47 :: e0 :: t2)),.string ⟨#[60,33,100,111,99,116,121,112,101]⟩] W fun e w'=>e = .returned (.bool true) ∧ Below W.heap.size W w'):=HB2.out
        clear HB2
        have hB1 : Hid (∀ W,Calls Tryz.prog 76 #[.string (str (60 :: 47 :: e0 :: t2)),.string ⟨#[60,33,45,45]⟩] W fun e w'=>e = .returned (.bool false) ∧ Below W.heap.size W w'):=HB1.out
        clear HB1 hpre hFe hLe
        go_enter Tryz.func47,Tryz.ntmps47
        go_wp2_with (first
         | (go_at_call 73;refine (hIT _).mono ?_;rintro e w1 ⟨rfl,hw⟩;rw [hw];clear hw hIT)
         | (go_at_call 74;refine (hL _).mono ?_;rintro e w1 ⟨rfl,hw⟩;rw [hw];clear hw hL)
         | (go_at_call 74;refine (hL2 _).mono ?_;rintro e w1 ⟨rfl,hw⟩;rw [hw];clear hw hL2)
         | (go_at_call 76;refine (hB1.out _).mono ?_;rintro e w4 ⟨rfl,hb4⟩;have A4:=zaa (HA0.out.step hb4);have B4:=zaa (HB0.out.trans (hb4.mono HB0.out.size));clear hb4 hB1)
         | (go_at_call 77;(try rw [hdr2]);refine (hF.out _).mono ?_;rintro e w1 ⟨rfl,hw⟩;rw [hw];clear hw hF)
         | (go_at_call 76;refine (HB2c.out _).mono ?_;rintro e w5 ⟨rfl,hb5⟩;have A5:=zaa (A4.out.step hb5);have B5:=zaa (bel B4.out hb5);clear hb5)
         | ((with_reducible show wpList _ _ _ ({ op:=Op.store 48 _ _,.. } :: _) _ _);refine zaA _ _ rfl rfl w.heap.size _ rfl 5 ByteArray.empty ByteArray.empty false none 0 0 rfl rfl A5.out ?_))
        refine zcp rfl rfl rfl rfl (zbg A5.out) ?_
        unfold zbu
        rw [HX.out]
        exact ⟨none,0,0,(by rw [show ((min (F + 3) (L) : Nat) : Int) = min ((F : Int) + 3) ((L : Int)) from by omega];rfl),zbd.nil _ _ _,B5.out.trans ((zah _ _ _).below _ (Nat.le_refl _) B5.out.size)⟩
      ·have hcase : Tk.zkD [60,33,45,45] (60 :: 47 :: e0 :: t2) = true ∧ 4 ≤ (60 :: 47 :: e0 :: t2).length:=⟨hpre,by have h:=hpre;unfold Tk.zkD at h;rw [Bool.and_eq_true] at h;exact of_decide_eq_true h.1⟩
       clear hpre
       have hL4 : 4 ≤ L:=by rw [← hLe];exact hcase.2
       obtain ⟨hpre,hb4⟩:=hcase
       rw [if_pos hpre] at HX
       rw [hpre] at HB1
       have hfl:=zfD [45,45,62] ((60 :: 47 :: e0 :: t2).drop 4)
       have hF:=zaa (fun W=>zbP ((60 :: 47 :: e0 :: t2).drop 4) [45,45,62] W (by rw [List.length_drop,hLe];omega) (by decide) (by decide))
       have hdr4:=zax (60 :: 47 :: e0 :: t2) 4
       rw [hLe] at hdr4
       obtain ⟨F,hFe⟩ : ∃ F,Tk.fd [45,45,62] ((60 :: 47 :: e0 :: t2).drop 4) = F:=⟨_,rfl⟩
       rw [hFe] at hfl HX hF
       have hmid:=zbp (60 :: 47 :: e0 :: t2) 4 (4 + F)
       rw [List.drop_take,Nat.add_sub_cancel_left] at hmid
       rw [List.length_drop,hLe] at hfl
       generalize ((60 :: 47 :: e0 :: t2).drop 4).take F = u at *
       generalize (60 :: 47 :: e0 :: t2).drop 4 = r4 at *
       have hB1 : Hid (∀ W,Calls Tryz.prog 76 #[.string (str (60 :: 47 :: e0 :: t2)),.string ⟨#[60,33,45,45]⟩] W fun e w'=>e = .returned (.bool true) ∧ Below W.heap.size W w'):=HB1.out
       clear HB1 hpre hFe hLe
       go_enter Tryz.func47,Tryz.ntmps47
       go_wp2_with (first
        | (go_at_call 73;refine (hIT _).mono ?_;rintro e w1 ⟨rfl,hw⟩;rw [hw];clear hw hIT)
        | (go_at_call 74;refine (hL _).mono ?_;rintro e w1 ⟨rfl,hw⟩;rw [hw];clear hw hL)
        | (go_at_call 74;refine (hL2 _).mono ?_;rintro e w1 ⟨rfl,hw⟩;rw [hw];clear hw hL2)
        | (go_at_call 76;refine (hB1.out _).mono ?_;rintro e w4 ⟨rfl,hb4⟩;have A4:=zaa (HA0.out.step hb4);have B4:=zaa (HB0.out.trans (hb4.mono HB0.out.size));clear hb4 hB1)
        | (go_at_call 77;(try rw [hdr4]);refine (hF.out _).mono ?_;rintro e w1 ⟨rfl,hw⟩;rw [hw];clear hw hF)
        | ((with_reducible show wpList _ _ _ ({ op:=Op.store 48 _ _,.. } :: _) _ _);refine zaA _ _ rfl rfl w.heap.size _ rfl 4 ByteArray.empty (str u) false none 0 0 rfl rfl A4.out ?_))
       refine zcp rfl rfl rfl rfl (zbg A4.out) ?_
       unfold zbu
       rw [HX.out]
       exact ⟨none,0,0,(by rw [show ((min (F + 7) (L) : Nat) : Int) = min ((F : Int) + 7) ((L : Int)) from by omega];rfl),zbd.nil _ _ _,B4.out.trans ((zah _ _ _).below _ (Nat.le_refl _) B4.out.size)⟩
    ·have q47 : ((d.toNat : Int) == 47) = false:=zh4 d 47 (by omega) hd47
     clear h47 hd47
     have HX:=zaa HX0
     obtain ⟨L,hLe⟩ : ∃ L,(60 :: d :: t).length = L:=⟨_,rfl⟩
     have hszL : (str (60 :: d :: t)).size = L:=by rw [← hLe];exact zad _
     have hzL : L ≤ 1000000:=by rw [← hLe];simp only [List.length_cons] at hz ⊢;omega
     have hL2l : 2 ≤ L:=by rw [← hLe];simp only [List.length_cons];omega
     rw [hLe] at HX
     clear HX0 hs hlen ht
     clear hsz
     cases hpre : Tk.zkD [60,33,45,45] (60 :: d :: t)
     ·cases hdoc : Tk.zkD Tk.zrG (60 :: d :: t)
      ·have hdr2:=zax (60 :: d :: t) 2
       rw [hLe] at hdr2
       rw [if_neg (by rw [hpre];simp)] at HX
       rw [hpre] at HB1
       have hfl:=zfD [62] ((60 :: d :: t).drop 2)
       have hF:=zaa (fun W=>zbP ((60 :: d :: t).drop 2) [62] W (by rw [List.length_drop,hLe];omega) (by decide) (by decide))
       obtain ⟨F,hFe⟩ : ∃ F,Tk.fd [62] ((60 :: d :: t).drop 2) = F:=⟨_,rfl⟩
       rw [hFe] at hfl HX hF
       have hmid:=zbp (60 :: d :: t) 2 (2 + F)
       rw [List.drop_take,Nat.add_sub_cancel_left] at hmid
       rw [List.length_drop,hLe] at hfl
       have HB2:=zaa (fun W=>zbG (60 :: d :: t) Tk.zrG W (by rw [hLe];omega) (by decide))
       generalize ((60 :: d :: t).drop 2).take F = u at *
       generalize (60 :: d :: t).drop 2 = r2 at *
       rw [if_neg (by rw [hdoc];simp)] at HX
       rw [hdoc] at HB2
       have HB2c : Hid (∀ W,Calls Tryz.prog 76 #[.string (str (60 :: d :: t)),.string ⟨#[60,33,100,111,99,116,121,112,101]⟩] W fun e w'=>e = .returned (.bool false) ∧ Below W.heap.size W w'):=HB2.out
       clear HB2
       have hB1 : Hid (∀ W,Calls Tryz.prog 76 #[.string (str (60 :: d :: t)),.string ⟨#[60,33,45,45]⟩] W fun e w'=>e = .returned (.bool false) ∧ Below W.heap.size W w'):=HB1.out
       clear HB1 hpre hFe hLe
       go_enter Tryz.func47,Tryz.ntmps47
       go_wp2_with (first
        | (go_at_call 73;refine (hIT _).mono ?_;rintro e w1 ⟨rfl,hw⟩;rw [hw];clear hw hIT)
        | (go_at_call 74;refine (hL _).mono ?_;rintro e w1 ⟨rfl,hw⟩;rw [hw];clear hw hL)
        | (go_at_call 76;refine (hB1.out _).mono ?_;rintro e w4 ⟨rfl,hb4⟩;have A4:=zaa (HA0.out.step hb4);have B4:=zaa (HB0.out.trans (hb4.mono HB0.out.size));clear hb4 hB1)
        | (go_at_call 77;(try rw [hdr2]);refine (hF.out _).mono ?_;rintro e w1 ⟨rfl,hw⟩;rw [hw];clear hw hF)
        | (go_at_call 76;refine (HB2c.out _).mono ?_;rintro e w5 ⟨rfl,hb5⟩;have A5:=zaa (A4.out.step hb5);have B5:=zaa (bel B4.out hb5);clear hb5)
        | ((with_reducible show wpList _ _ _ ({ op:=Op.store 48 _ _,.. } :: _) _ _);refine zaA _ _ rfl rfl w.heap.size _ rfl 4 ByteArray.empty (str u) false none 0 0 rfl rfl A5.out ?_))
       refine zcp rfl rfl rfl rfl (zbg A5.out) ?_
       unfold zbu
       rw [HX.out]
       exact ⟨none,0,0,(by rw [show ((min (F + 3) (L) : Nat) : Int) = min ((F : Int) + 3) ((L : Int)) from by omega];rfl),zbd.nil _ _ _,B5.out.trans ((zah _ _ _).below _ (Nat.le_refl _) B5.out.size)⟩
      ·have hdr2:=zax (60 :: d :: t) 2
       rw [hLe] at hdr2
       rw [if_neg (by rw [hpre];simp)] at HX
       rw [hpre] at HB1
       have hfl:=zfD [62] ((60 :: d :: t).drop 2)
       have hF:=zaa (fun W=>zbP ((60 :: d :: t).drop 2) [62] W (by rw [List.length_drop,hLe];omega) (by decide) (by decide))
       obtain ⟨F,hFe⟩ : ∃ F,Tk.fd [62] ((60 :: d :: t).drop 2) = F:=⟨_,rfl⟩
       rw [hFe] at hfl HX hF
       have hmid:=zbp (60 :: d :: t) 2 (2 + F)
       rw [List.drop_take,Nat.add_sub_cancel_left] at hmid
       rw [List.length_drop,hLe] at hfl
       have HB2:=zaa (fun W=>zbG (60 :: d :: t) Tk.zrG W (by rw [hLe];omega) (by decide))
       generalize ((60 :: d :: t).drop 2).take F = u at *
       generalize (60 :: d :: t).drop 2 = r2 at *
       rw [if_pos hdoc] at HX
       rw [hdoc] at HB2
       have HB2c : Hid (∀ W,Calls Tryz.prog 76 #[.string (str (60 :: d :: t)),.string ⟨#[60,33,100,111,99,116,121,112,101]⟩] W fun e w'=>e = .returned (.bool true) ∧ Below W.heap.size W w'):=HB2.out
       clear HB2
       have hB1 : Hid (∀ W,Calls Tryz.prog 76 #[.string (str (60 :: d :: t)),.string ⟨#[60,33,45,45]⟩] W fun e w'=>e = .returned (.bool false) ∧ Below W.heap.size W w'):=HB1.out
       clear HB1 hpre hFe hLe
       go_enter Tryz.func47,Tryz.ntmps47
       go_wp2_with (first
        | (go_at_call 73;refine (hIT _).mono ?_;rintro e w1 ⟨rfl,hw⟩;rw [hw];clear hw hIT)
        | (go_at_call 74;refine (hL _).mono ?_;rintro e w1 ⟨rfl,hw⟩;rw [hw];clear hw hL)
        | (go_at_call 76;refine (hB1.out _).mono ?_;rintro e w4 ⟨rfl,hb4⟩;have A4:=zaa (HA0.out.step hb4);have B4:=zaa (HB0.out.trans (hb4.mono HB0.out.size));clear hb4 hB1)
        | (go_at_call 77;(try rw [hdr2]);refine (hF.out _).mono ?_;rintro e w1 ⟨rfl,hw⟩;rw [hw];clear hw hF)
        | (go_at_call 76;refine (HB2c.out _).mono ?_;rintro e w5 ⟨rfl,hb5⟩;have A5:=zaa (A4.out.step hb5);have B5:=zaa (bel B4.out hb5);clear hb5)
        | ((with_reducible show wpList _ _ _ ({ op:=Op.store 48 _ _,.. } :: _) _ _);refine zaA _ _ rfl rfl w.heap.size _ rfl 5 ByteArray.empty ByteArray.empty false none 0 0 rfl rfl A5.out ?_))
       refine zcp rfl rfl rfl rfl (zbg A5.out) ?_
       unfold zbu
       rw [HX.out]
       exact ⟨none,0,0,(by rw [show ((min (F + 3) (L) : Nat) : Int) = min ((F : Int) + 3) ((L : Int)) from by omega];rfl),zbd.nil _ _ _,B5.out.trans ((zah _ _ _).below _ (Nat.le_refl _) B5.out.size)⟩
     ·have hcase : Tk.zkD [60,33,45,45] (60 :: d :: t) = true ∧ 4 ≤ (60 :: d :: t).length:=⟨hpre,by have h:=hpre;unfold Tk.zkD at h;rw [Bool.and_eq_true] at h;exact of_decide_eq_true h.1⟩
      clear hpre
      have hL4 : 4 ≤ L:=by rw [← hLe];exact hcase.2
      obtain ⟨hpre,hb4⟩:=hcase
      rw [if_pos hpre] at HX
      rw [hpre] at HB1
      have hfl:=zfD [45,45,62] ((60 :: d :: t).drop 4)
      have hF:=zaa (fun W=>zbP ((60 :: d :: t).drop 4) [45,45,62] W (by rw [List.length_drop,hLe];omega) (by decide) (by decide))
      have hdr4:=zax (60 :: d :: t) 4
      rw [hLe] at hdr4
      obtain ⟨F,hFe⟩ : ∃ F,Tk.fd [45,45,62] ((60 :: d :: t).drop 4) = F:=⟨_,rfl⟩
      rw [hFe] at hfl HX hF
      have hmid:=zbp (60 :: d :: t) 4 (4 + F)
      rw [List.drop_take,Nat.add_sub_cancel_left] at hmid
      rw [List.length_drop,hLe] at hfl
      generalize ((60 :: d :: t).drop 4).take F = u at *
      generalize (60 :: d :: t).drop 4 = r4 at *
      have hB1 : Hid (∀ W,Calls Tryz.prog 76 #[.string (str (60 :: d :: t)),.string ⟨#[60,33,45,45]⟩] W fun e w'=>e = .returned (.bool true) ∧ Below W.heap.size W w'):=HB1.out
      clear HB1 hpre hFe hLe
      go_enter Tryz.func47,Tryz.ntmps47
      go_wp2_with (first
       | (go_at_call 73;refine (hIT _).mono ?_;rintro e w1 ⟨rfl,hw⟩;rw [hw];clear hw hIT)
       | (go_at_call 74;refine (hL _).mono ?_;rintro e w1 ⟨rfl,hw⟩;rw [hw];clear hw hL)
       | (go_at_call 76;refine (hB1.out _).mono ?_;rintro e w4 ⟨rfl,hb4⟩;have A4:=zaa (HA0.out.step hb4);have B4:=zaa (HB0.out.trans (hb4.mono HB0.out.size));clear hb4 hB1)
       | (go_at_call 77;(try rw [hdr4]);refine (hF.out _).mono ?_;rintro e w1 ⟨rfl,hw⟩;rw [hw];clear hw hF)
       | ((with_reducible show wpList _ _ _ ({ op:=Op.store 48 _ _,.. } :: _) _ _);refine zaA _ _ rfl rfl w.heap.size _ rfl 4 ByteArray.empty (str u) false none 0 0 rfl rfl A4.out ?_))
      refine zcp rfl rfl rfl rfl (zbg A4.out) ?_
      unfold zbu
      rw [HX.out]
      exact ⟨none,0,0,(by rw [show ((min (F + 7) (L) : Nat) : Int) = min ((F : Int) + 7) ((L : Int)) from by omega];rfl),zbd.nil _ _ _,B4.out.trans ((zah _ _ _).below _ (Nat.le_refl _) B4.out.size)⟩
  ·rw [hld] at hL
   rw [hld] at HLd
   have HX:=zaa (zmc (60 :: d :: t) ht HLd.out)
   have HTag:=zaa (fun W=>zlf (60 :: d :: t) 1 W (by simp) hz)
   rw [hlen] at HX
   unfold zer at HTag
   generalize zcU ((60 :: d :: t).drop 1) = q at *
   generalize zmb (60 :: d :: t) 1 = N at *
   obtain ⟨⟨kk,kn,ka,ksf,kx⟩,r⟩:=q
   clear ht hs hld HLd hlen
   simp only at HX
   by_cases hN0 : N = 0
   ·subst hN0
    rw [if_pos rfl] at HX
    go_enter Tryz.func47,Tryz.ntmps47
    go_wp2_with (first
     | (go_at_call 73;refine (hIT _).mono ?_;rintro e w1 ⟨rfl,hw⟩;rw [hw];clear hw hIT)
     | (go_at_call 74;refine (hL _).mono ?_;rintro e w1 ⟨rfl,hw⟩;rw [hw];clear hw hL)
     | (go_at_call 75;refine (HTag.out _).mono ?_;rintro e w5 ⟨ad,ln,cp,rfl,o5,hb5⟩;have A5:=HA0.out.step hb5;have B5:=HB0.out.trans (hb5.mono HB0.out.size);have hb6 : Below w5.heap.size w5 (w5.alloc (.cells (zak kk kn (.slice ad ln cp) ksf kx) 48)):=(Below.refl _ _).alloc (Nat.le_refl _) _;have A6:=zaa (A5.step hb6);have B6:=zaa (bel B5 hb6);have T6 : Hid (zbb (w5.alloc (.cells (zak kk kn (.slice ad ln cp) ksf kx) 48)) w5.heap.size (zak kk kn (.slice ad ln cp) ksf kx)):=zaf w5 _;have O6:=zaa (zbd.mono (B:=w.heap.size + 1) (zbd.below o5 hb6) (by have:=HA0.out.lt;omega));have t61:=Lib.cell_of_heap T6.out 1;clear A5 B5 hb5 hb6 o5)
     | ((with_reducible show wpList _ _ _ ({ op:=Op.load 48 _,.. } :: _) _ _);refine zaD _ rfl rfl w5.heap.size _ _ _ _ _ rfl T6.out ?_)
     | ((with_reducible show wpList _ _ _ ({ op:=Op.store 48 _ _,.. } :: _) _ _);refine zaA _ _ rfl rfl w.heap.size _ rfl 0 ByteArray.empty ByteArray.empty false none 0 0 rfl rfl A6.out ?_))
    refine zcp rfl rfl rfl rfl (zbg A6.out) ?_
    unfold zbu
    rw [HX.out]
    exact ⟨none,0,0,rfl,zbd.nil _ _ _,B6.out.trans ((zah _ _ _).below _ (Nat.le_refl _) B6.out.size)⟩
   ·rw [if_neg hN0] at HX
    have qN : ((N : Int) == 0) = false:=by rw [beq_eq_false_iff_ne];omega
    clear hN0
    go_enter Tryz.func47,Tryz.ntmps47
    go_wp2_with (first
     | (go_at_call 73;refine (hIT _).mono ?_;rintro e w1 ⟨rfl,hw⟩;rw [hw];clear hw hIT)
     | (go_at_call 74;refine (hL _).mono ?_;rintro e w1 ⟨rfl,hw⟩;rw [hw];clear hw hL)
     | (go_at_call 75;refine (HTag.out _).mono ?_;rintro e w5 ⟨ad,ln,cp,rfl,o5,hb5⟩;have A5:=HA0.out.step hb5;have B5:=HB0.out.trans (hb5.mono HB0.out.size);have hb6 : Below w5.heap.size w5 (w5.alloc (.cells (zak kk kn (.slice ad ln cp) ksf kx) 48)):=(Below.refl _ _).alloc (Nat.le_refl _) _;have A6:=zaa (A5.step hb6);have B6:=zaa (bel B5 hb6);have T6 : Hid (zbb (w5.alloc (.cells (zak kk kn (.slice ad ln cp) ksf kx) 48)) w5.heap.size (zak kk kn (.slice ad ln cp) ksf kx)):=zaf w5 _;have O6:=zaa (zbd.mono (B:=w.heap.size + 1) (zbd.below o5 hb6) (by have:=HA0.out.lt;omega));have t61:=Lib.cell_of_heap T6.out 1;clear A5 B5 hb5 hb6 o5)
     | ((with_reducible show wpList _ _ _ ({ op:=Op.load 48 _,.. } :: _) _ _);refine zaD _ rfl rfl w5.heap.size _ _ _ _ _ rfl T6.out ?_)
     | ((with_reducible show wpList _ _ _ ({ op:=Op.store 48 _ _,.. } :: _) _ _);refine zaA _ _ rfl rfl w.heap.size _ rfl kk (str kn) (str kx) ksf ad ln cp rfl rfl A6.out ?_))
    refine zcp rfl rfl rfl rfl (zbg A6.out) ?_
    unfold zbu
    rw [HX.out]
    exact ⟨ad,ln,cp,rfl,(zbd.kept O6.out (zah _ _ _) (Nat.lt_succ_self _)).mono (Nat.le_succ _),B6.out.trans ((zah _ _ _).below _ (Nat.le_refl _) B6.out.size)⟩
end Go.Proofs.YtiodaahncadodaaGreatDoor
