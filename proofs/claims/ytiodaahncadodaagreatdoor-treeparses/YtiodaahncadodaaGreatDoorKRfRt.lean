/- Texts laid as one. -/
import Derived.Test.YtiodaahncadodaaGreatDoorKRfR
import Derived.Deep.RegionWith
import Derived.Test.YtiodaahncadodaaGreatDoorKRfLT
import Derived.Test.YtiodaahncadodaaGreatDoorKRefA
set_option maxRecDepth 100000
set_option maxHeartbeats 2000000
set_option linter.unusedVariables false
set_option linter.unusedSimpArgs false
namespace Rf
theorem lookP_next (t : List UInt8) (T : Tab) (k : Nat) (p : List UInt8 × Int) (h : T[k]? = some p) (hn : (p.1 ++ [59]).isPrefixOf t = false) : zew t (T.drop (k + 1)) = zew t (T.drop k):=by
 obtain ⟨hlt,rfl⟩:=List.getElem?_eq_some_iff.1 h
 rw [List.drop_eq_getElem_cons hlt,zew,hn]
 rfl
theorem lookP_here (t : List UInt8) (T : Tab) (k : Nat) (p : List UInt8 × Int) (h : T[k]? = some p) (hn : (p.1 ++ [59]).isPrefixOf t = true) : zew t (T.drop k) = (p.2,p.1.length + 1):=by
 obtain ⟨hlt,rfl⟩:=List.getElem?_eq_some_iff.1 h
 rw [List.drop_eq_getElem_cons hlt,zew,hn]
 rfl
theorem lookS_next (a : Bool) (t : List UInt8) (T : Tab) (k : Nat) (p : List UInt8 × Int) (h : T[k]? = some p) (hn : (p.1.isPrefixOf t && !(a && zdy (t.drop p.1.length))) = false) : zex a t (T.drop (k + 1)) = zex a t (T.drop k):=by
 obtain ⟨hlt,rfl⟩:=List.getElem?_eq_some_iff.1 h
 rw [List.drop_eq_getElem_cons hlt,zex,hn]
 rfl
theorem lookS_here (a : Bool) (t : List UInt8) (T : Tab) (k : Nat) (p : List UInt8 × Int) (h : T[k]? = some p) (hn : (p.1.isPrefixOf t && !(a && zdy (t.drop p.1.length))) = true) : zex a t (T.drop k) = (p.2,p.1.length):=by
 obtain ⟨hlt,rfl⟩:=List.getElem?_eq_some_iff.1 h
 rw [List.drop_eq_getElem_cons hlt,zex,hn]
 rfl
theorem nx_tables (a : Bool) (t : List UInt8) (h : [35].isPrefixOf t = false) : nx a (38 :: t) = if (zew t zaH).2 ≠ 0 then ((zew t zaH).1,(zew t zaH).2 + 1,true) else if (zex a t zbj).2 ≠ 0 then ((zex a t zbj).1,(zex a t zbj).2 + 1,true) else (0,0,false):=by
 rw [zqU,zjt,zph]
 unfold next
 rw [(zkw t h).1]
 by_cases h1 : zkr t = 0
 ·simp only [h1]
  by_cases h2 : (sh a t).2 = 0
  ·simp [h2]
  ·simp [h2]
 ·simp [h1]
end Rf
namespace Go.Proofs.YtiodaahncadodaaGreatDoor
open Go.RowKit
def zeO : Array Value:=#[.string ⟨#[97,109,112]⟩,.string ⟨#[108,116]⟩,.string ⟨#[103,116]⟩,.string ⟨#[113,117,111,116]⟩,.string ⟨#[110,98,115,112]⟩,.string ⟨#[99,111,112,121]⟩,.string ⟨#[114,101,103]⟩]
theorem zqu (k : Nat) (h : k < 7) (w : World) (T : Nat) : ∃ p,Rf.zbj[k]? = some p ∧ p.2 ≠ 0 ∧ p.1.length ≤ 4 ∧ 1 ≤ p.1.length ∧ Rf.sgn p.1 = p.2 ∧ (w.alloc (.cells zeO T)).cell? ⟨w.heap.size,k,none⟩ = some (.string (str p.1)):=by
 have hl : Rf.zbj.length = 7:=by decide +kernel
 have hk : k < Rf.zbj.length:=by omega
 have hb : ∀ p ∈ Rf.zbj,p.2 ≠ 0 ∧ p.1.length ≤ 4 ∧ 1 ≤ p.1.length ∧ Rf.sgn p.1 = p.2:=by decide +kernel
 have hb':=hb _ (List.getElem_mem hk)
 refine ⟨Rf.zbj[k],List.getElem?_eq_getElem hk,hb'.1,hb'.2.1,hb'.2.2.1,hb'.2.2.2,?_⟩
 rw [Lib.cell_of_heap (zaf w _)]
 match k,h with
 | 0,_ | 1,_ | 2,_ | 3,_ | 4,_ | 5,_ | 6,_=>rfl
theorem zoQ (k : Nat) (h : 7 ≤ k) : Rf.zbj.drop k = []:=by
 have hl : Rf.zbj.length = 7:=by decide +kernel
 exact List.drop_eq_nil_of_le (by omega)
theorem zbF (c : UInt8) (w : World) :
  Calls Tryz.prog 74 #[.int .u8 c.toNat] w fun e w'=>e = .returned (.bool (Rf.letZ (Asc.bt c))) ∧ w' = w:=zjn _ _
theorem zeP (c : UInt8) (w : World) :
  Calls Tryz.prog 113 #[.int .u8 c.toNat] w fun e w'=>e = .returned (.bool (Rf.zmA c)) ∧ w' = w:=zcD _ _
theorem zbr {B : Nat} {w w' : World} (n : Nat) (h : Below B w w') : Below B w (w'.drewN n) :=
 ⟨h.1,h.2,h.3,h.4,h.5⟩
theorem zoR (t : List UInt8) (a : Bool) (w : World) (hz : t.length ≤ 100000000) (hh : [35].isPrefixOf t = false) :
  Calls Tryz.prog 79 #[.string (str (38 :: t)),.bool a] w fun e w'=>e = .returned (nxV (Rf.nx a (38 :: t))) ∧ Below w.heap.size w w':=by
 have hsz : (str (38 :: t)).size = t.length + 1:=zad (38 :: t)
 have HX : Hid (Rf.nx a (38 :: t) = _):=Rf.nx_tables a t hh
 have hS1 : ∀ W,Calls Tryz.prog 110 #[.string (str (38 :: t)),.string (str [38,35])] W fun e w'=>e = .returned (.bool false) ∧ w' = W:=fun W=>by
  have:=zcj (38 :: t) [38,35] W
  rw [show [38,35].isPrefixOf (38 :: t) = [35].isPrefixOf t from rfl,hh] at this
  exact this
 have hS2 : ∀ W,Calls Tryz.prog 110 #[.string (str (38 :: t)),.string (str [38])] W fun e w'=>e = .returned (.bool true) ∧ w' = W:=fun W=>zcj (38 :: t) [38] W
 have he1 : (str (38 :: t)).extract 1 (t.length + 1) = str t:=zax (38 :: t) 1
 clear hh
 go_enter Tryz.func79,Tryz.ntmps79
 go_wp2_with (first
  | (go_at_call 110;refine (hS1 _).mono ?_;rintro e w1 ⟨rfl,hw⟩;rw [hw];clear hw hS1)
  | (go_at_call 110;refine (hS2 _).mono ?_;rintro e w1 ⟨rfl,hw⟩;rw [hw];clear hw hS2)
  | (go_at_call 112;refine (zi7 _).mono ?_;rintro e w1 ⟨b,rfl,ht,hb1⟩))
 have HT : Hid (zcQ w1 b Rf.zaH):=ht
 clear ht
 go_loopw [8] (fun i wr=>∃ k : Nat,k ≤ 56 ∧ i = .int .i64 k ∧ Hid (Rf.zew t (Rf.zaH.drop k) = Rf.zew t Rf.zaH) ∧ Below w1.heap.size w1 wr) (fun i _=>56 - (intOf i).toNat)
 case atStart=>exact ⟨0,by omega,rfl,rfl,Below.refl _ _⟩
 case round =>
  obtain ⟨k,hk,rfl,HE,hB⟩:=hrel
  by_cases hlt : k < 56
  ·obtain ⟨p,hp,hnz,hpl⟩:=zk7 k hlt
   obtain ⟨hc0,hc1⟩:=(HT.out.below hB) k p hp
   rw [Nat.mul_comm 2 k] at hc0 hc1
   have hsp:=zad p.1
   have hsl : ∀ (W : World),(Instr.slice 9 (.string (str (38 :: t))) (some (.int .i64 1)) none none).run Tryz.prog W = .ok (.string (str t)) W:=fun W=>by
    rw [run_slice_string_from_if (P:=Tryz.prog) W 9 (str (38 :: t)) .i64 1 Tryz.underlying9,if_pos ⟨by omega,by rw [hsz];omega⟩]
    rw [hsz,show (1 : Int).toNat = 1 from rfl,he1]
   cases hq : (p.1 ++ [59]).isPrefixOf t
   ·have HN : Hid (Rf.zew t (Rf.zaH.drop (k + 1)) = Rf.zew t Rf.zaH):=(Rf.lookP_next t _ k p hp hq).trans HE.out
    have hqq : (str p.1 ++ (⟨#[59]⟩ : ByteArray)).data.toList.isPrefixOf (str t).data.toList = false:=by
     rw [ByteArray.data_append,Array.toList_append,zam,zam]
     exact hq
    clear hq hp HE
    go_wp2_with fail
    go_quiet ((go_at_call 110;exact Calls.quiet_of_same (zcd _ _ _)))
    rw [hqq]
    go_wp2
    go_roundw
    case rel=>exact ⟨k + 1,by omega,by go_num,HN,zbr nq hB⟩
    case measure=>simp [intOf];omega
   ·have HN : Hid (Rf.nx a (38 :: t) = (p.2,p.1.length + 2,true)):=by
     show _ = _
     rw [HX.out,← HE.out,Rf.lookP_here t _ k p hp hq]
     rfl
    have hqq : (str p.1 ++ (⟨#[59]⟩ : ByteArray)).data.toList.isPrefixOf (str t).data.toList = true:=by
     rw [ByteArray.data_append,Array.toList_append,zam,zam]
     exact hq
    clear hq hp HE
    have hB2 : ∀ n,Below w.heap.size w (wr.drewN n):=fun n=>zbr n (bel hb1 hB)
    go_wp2_with fail
    go_quiet ((go_at_call 110;exact Calls.quiet_of_same (zcd _ _ _)))
    rw [hqq]
    go_wp2_with fail
    go_quiet (fail)
    go_wp2
    go_ret3
    exact ⟨by rw [HN.out];simp [nxV],zbr _ (zbr _ (bel hb1 hB))⟩
  ·have HP : Hid (Rf.zew t Rf.zaH = (0,0)):=by
    show _ = _
    rw [← HE.out,zi8 k (by omega)]
    rfl
   have HX' : Hid (Rf.nx a (38 :: t) = if (Rf.zex a t Rf.zbj).2 ≠ 0 then ((Rf.zex a t Rf.zbj).1,(Rf.zex a t Rf.zbj).2 + 1,true) else (0,0,false)):=by
    show _ = _
    rw [HX.out,HP.out]
    rfl
   clear HX HP HE HT
   have hB2:=bel hb1 hB
   have hsl : ∀ (W : World),(Instr.slice 9 (.string (str (38 :: t))) (some (.int .i64 1)) none none).run Tryz.prog W = .ok (.string (str t)) W:=fun W=>by
    rw [run_slice_string_from_if (P:=Tryz.prog) W 9 (str (38 :: t)) .i64 1 Tryz.underlying9,if_pos ⟨by omega,by rw [hsz];omega⟩]
    rw [hsz,show (1 : Int).toNat = 1 from rfl,he1]
   rename World=>V
   go_wp2
   have hszB:=hB2.size
   have hB5 : Below w.heap.size w (V.alloc (.cells zeO 9)):=hB2.alloc hszB _
   clear hb1 hB
   go_loopw [10] (fun i wr'=>∃ k : Nat,k ≤ 7 ∧ i = .int .i64 k ∧ Hid (Rf.zex a t (Rf.zbj.drop k) = Rf.zex a t Rf.zbj) ∧ Below (V.heap.size + 1) (V.alloc (.cells zeO 9)) wr') (fun i _=>7 - (intOf i).toNat)
   case atStart=>exact ⟨0,by omega,rfl,rfl,Below.refl _ _⟩
   case round =>
    clear hk
    obtain ⟨k,hk,rfl,HE,hB6⟩:=hrel
    have hB7:=hB5.trans (hB6.mono (by omega))
    by_cases hlt : k < 7
    ·obtain ⟨p,hp,hnz,hpl,hpl1,hsg,hc⟩:=zqu k hlt V 9
     have hc0:=(hB6.cell (p:=⟨V.heap.size,k,none⟩) (by simp)).trans hc
     clear hc
     have hsp:=zad p.1
     have hN:=zoJ p.1
     rw [hsg] at hN
     clear hsg
     cases hq : p.1.isPrefixOf t
     ·have hqq : (str p.1).data.toList.isPrefixOf (str t).data.toList = false:=by rw [zam,zam];exact hq
      have HR : Hid (Rf.zex a t (Rf.zbj.drop (k + 1)) = Rf.zex a t Rf.zbj):=(Rf.lookS_next a t _ k p hp (by rw [hq];rfl)).trans HE.out
      clear hq hp HE hN
      go_wp2_with fail
      go_quiet ((go_at_call 110;exact Calls.quiet_of_same (zcd _ _ _)))
      rw [hqq]
      go_wp2
      go_roundw
      case rel=>exact ⟨k + 1,by omega,by go_num,HR.out,zbr _ hB6⟩
      case measure=>simp [intOf];omega
     ·have hqq : (str p.1).data.toList.isPrefixOf (str t).data.toList = true:=by rw [zam,zam];exact hq
      obtain ⟨r,hr⟩:=List.isPrefixOf_iff_prefix.1 hq
      have hdr : t.drop p.1.length = r:=by rw [← hr,List.drop_left]
      have hlr : p.1.length + r.length = t.length:=by rw [← hr,List.length_append]
      have HYES : Hid ((a && Rf.zdy r) = false → Rf.nx a (38 :: t) = (p.2,p.1.length + 1,true)):=by
       intro hg
       rw [HX'.out,← HE.out,Rf.lookS_here a t _ k p hp (by rw [hq,hdr,hg];rfl)]
       show (if p.1.length ≠ 0 then _ else _) = _
       rw [if_pos (by omega)]
      have HNO : Hid ((a && Rf.zdy r) = true → Rf.zex a t (Rf.zbj.drop (k + 1)) = Rf.zex a t Rf.zbj):=by
       intro hg
       exact (Rf.lookS_next a t _ k p hp (by rw [hq,hdr,hg];rfl)).trans HE.out
      clear hq hp HE hdr
      cases a
      ·have HR : Hid (Rf.nx false (38 :: t) = (p.2,p.1.length + 1,true)):=HYES.out rfl
       have hL:=zbF 0
       have hG:=zeP 0
       clear hr
       go_wp2_with fail
       go_quiet ((go_at_call 110;exact Calls.quiet_of_same (zcd _ _ _)))
       rw [hqq]
       go_wp2_with (first
         | (go_at_call 74;refine (hL _).mono ?_;rintro e w5 ⟨rfl,hw⟩;rw [hw];clear hw)
         | (go_at_call 113;refine (hG _).mono ?_;rintro e w5 ⟨rfl,hw⟩;rw [hw];clear hw)
         | (go_at_call 114;refine (hN _).mono ?_;rintro e w6 ⟨rfl,hb6⟩))
       go_ret3
       exact ⟨by rw [HR.out];simp [nxV],bel (zbr _ hB7) hb6⟩
      ·cases r with
       | nil =>
        have HR : Hid (Rf.nx true (38 :: t) = (p.2,p.1.length + 1,true)):=HYES.out rfl
        have hni : ¬ ((p.1.length : Int) + 1 < (t.length : Int) + 1):=by simp at hlr;omega
        have hL:=zbF 0
        have hG:=zeP 0
        clear hr
        go_wp2_with fail
        go_quiet ((go_at_call 110;exact Calls.quiet_of_same (zcd _ _ _)))
        rw [hqq]
        go_wp2_with (first
         | (go_at_call 74;refine (hL _).mono ?_;rintro e w5 ⟨rfl,hw⟩;rw [hw];clear hw)
         | (go_at_call 113;refine (hG _).mono ?_;rintro e w5 ⟨rfl,hw⟩;rw [hw];clear hw)
         | (go_at_call 114;refine (hN _).mono ?_;rintro e w6 ⟨rfl,hb6⟩))
        go_ret3
        exact ⟨by rw [HR.out];simp [nxV],bel (zbr _ hB7) hb6⟩
       | cons c r =>
        have hni : (p.1.length : Int) + 1 < (t.length : Int) + 1:=by simp at hlr;omega
        have hks : p.1.length + 1 < (str (38 :: t)).size:=by rw [hsz];simp at hlr;omega
        have he : (str (38 :: t))[p.1.length + 1] = c:=by
         show (38 :: t)[p.1.length + 1]'(by simp;simp at hlr;omega) = c
         rw [List.getElem_cons_succ]
         have:=zk8 [] p.1 c r (by simp)
         simp only [List.nil_append,List.length_nil,Nat.zero_add] at this
         simp only [← hr]
         exact this
        have hL:=zbF c
        have hG:=zeP c
        have HG : Hid (Rf.zdy (c :: r) = (c == 61 || (Rf.letZ (Asc.bt c) || Rf.zmA c))):=rfl
        clear hr
        by_cases h61 : c = 61
        ·have HR : Hid (Rf.zex true t (Rf.zbj.drop (k + 1)) = Rf.zex true t Rf.zbj):=HNO.out (by rw [HG.out,h61];rfl)
         have q61 : ((c.toNat : Int) == 61) = true:=by rw [h61];rfl
         clear h61
         go_wp2_with fail
         go_quiet ((go_at_call 110;exact Calls.quiet_of_same (zcd _ _ _)))
         rw [hqq]
         go_wp2_with (first
         | (go_at_call 74;refine (hL _).mono ?_;rintro e w5 ⟨rfl,hw⟩;rw [hw];clear hw)
         | (go_at_call 113;refine (hG _).mono ?_;rintro e w5 ⟨rfl,hw⟩;rw [hw];clear hw)
         | (go_at_call 114;refine (hN _).mono ?_;rintro e w6 ⟨rfl,hb6⟩))
         go_roundw
         case rel=>exact ⟨k + 1,by omega,by go_num,HR.out,zbr _ hB6⟩
         case measure=>simp [intOf];omega
        ·have q61 : ((c.toNat : Int) == 61) = false:=beq_eq_false_iff_ne.2 (zdq (k:=61) (by omega) h61)
         have n61 : (c == 61) = false:=beq_eq_false_iff_ne.2 h61
         clear h61
         rw [n61] at HG
         cases hx : Rf.letZ (Asc.bt c)
         ·cases hy : Rf.zmA c
          ·have HR : Hid (Rf.nx true (38 :: t) = (p.2,p.1.length + 1,true)):=HYES.out (by rw [HG.out,hx,hy];rfl)
           go_wp2_with fail
           go_quiet ((go_at_call 110;exact Calls.quiet_of_same (zcd _ _ _)))
           rw [hqq]
           go_wp2_with (first
         | (go_at_call 74;refine (hL _).mono ?_;rintro e w5 ⟨rfl,hw⟩;rw [hw];clear hw)
         | (go_at_call 113;refine (hG _).mono ?_;rintro e w5 ⟨rfl,hw⟩;rw [hw];clear hw)
         | (go_at_call 114;refine (hN _).mono ?_;rintro e w6 ⟨rfl,hb6⟩))
           go_ret3
           exact ⟨by rw [HR.out];simp [nxV],bel (zbr _ hB7) hb6⟩
          ·have HR : Hid (Rf.zex true t (Rf.zbj.drop (k + 1)) = Rf.zex true t Rf.zbj):=HNO.out (by rw [HG.out,hx,hy];rfl)
           go_wp2_with fail
           go_quiet ((go_at_call 110;exact Calls.quiet_of_same (zcd _ _ _)))
           rw [hqq]
           go_wp2_with (first
         | (go_at_call 74;refine (hL _).mono ?_;rintro e w5 ⟨rfl,hw⟩;rw [hw];clear hw)
         | (go_at_call 113;refine (hG _).mono ?_;rintro e w5 ⟨rfl,hw⟩;rw [hw];clear hw)
         | (go_at_call 114;refine (hN _).mono ?_;rintro e w6 ⟨rfl,hb6⟩))
           go_roundw
           case rel=>exact ⟨k + 1,by omega,by go_num,HR.out,zbr _ hB6⟩
           case measure=>simp [intOf];omega
         ·have HR : Hid (Rf.zex true t (Rf.zbj.drop (k + 1)) = Rf.zex true t Rf.zbj):=HNO.out (by rw [HG.out,hx];rfl)
          go_wp2_with fail
          go_quiet ((go_at_call 110;exact Calls.quiet_of_same (zcd _ _ _)))
          rw [hqq]
          go_wp2_with (first
         | (go_at_call 74;refine (hL _).mono ?_;rintro e w5 ⟨rfl,hw⟩;rw [hw];clear hw)
         | (go_at_call 113;refine (hG _).mono ?_;rintro e w5 ⟨rfl,hw⟩;rw [hw];clear hw)
         | (go_at_call 114;refine (hN _).mono ?_;rintro e w6 ⟨rfl,hb6⟩))
          go_roundw
          case rel=>exact ⟨k + 1,by omega,by go_num,HR.out,zbr _ hB6⟩
          case measure=>simp [intOf];omega
    ·have HR : Hid (Rf.nx a (38 :: t) = (0,0,false)):=by
      show _ = _
      rw [HX'.out,← HE.out,zoQ k (by omega)]
      rfl
     go_wp2
     go_ret3
     rw [HR.out]
     exact ⟨rfl,hB7⟩
theorem zst (l : List UInt8) (a : Bool) (w : World) (h : [38].isPrefixOf l = false) :
  Calls Tryz.prog 79 #[.string (str l),.bool a] w fun e w'=>e = .returned (nxV (Rf.nx a l)) ∧ Below w.heap.size w w':=by
 have h2 : [38,35].isPrefixOf l = false:=by
  rw [Bool.eq_false_iff]
  intro e
  obtain ⟨r,rfl⟩:=List.isPrefixOf_iff_prefix.1 e
  simp [List.isPrefixOf] at h
 have hS1 : ∀ W,Calls Tryz.prog 110 #[.string (str l),.string (str [38,35])] W fun e w'=>e = .returned (.bool false) ∧ w' = W:=fun W=>by
  have:=zcj l [38,35] W
  rw [h2] at this
  exact this
 have hS2 : ∀ W,Calls Tryz.prog 110 #[.string (str l),.string (str [38])] W fun e w'=>e = .returned (.bool false) ∧ w' = W:=fun W=>by
  have:=zcj l [38] W
  rw [h] at this
  exact this
 rw [Rf.nx_none a l h]
 clear h h2
 go_enter Tryz.func79,Tryz.ntmps79
 go_wp2_with (first
  | (go_at_call 110;refine (hS1 _).mono ?_;rintro e w1 ⟨rfl,hw⟩;rw [hw];clear hw hS1)
  | (go_at_call 110;refine (hS2 _).mono ?_;rintro e w1 ⟨rfl,hw⟩;rw [hw];clear hw hS2))
 go_ret3
 exact ⟨rfl,Below.refl _ _⟩
theorem zqv (r : List UInt8) (a : Bool) (w : World) (hz : r.length ≤ 100000000) :
  Calls Tryz.prog 79 #[.string (str (38 :: 35 :: r)),.bool a] w fun e w'=>e = .returned (nxV (Rf.nx a (38 :: 35 :: r))) ∧ Below w.heap.size w w':=by
 have hS1 : ∀ W,Calls Tryz.prog 110 #[.string (str (38 :: 35 :: r)),.string (str [38,35])] W fun e w'=>e = .returned (.bool true) ∧ w' = W:=fun W=>zcj (38 :: 35 :: r) [38,35] W
 have hN:=fun W=>zkf a r W hz
 generalize Rf.nx a (38 :: 35 :: r) = q at *
 obtain ⟨x,n,b⟩:=q
 unfold nxV at *
 simp only at hN ⊢
 go_enter Tryz.func79,Tryz.ntmps79
 go_wp2_with (first
  | (go_at_call 110;refine (hS1 _).mono ?_;rintro e w1 ⟨rfl,hw⟩;rw [hw];clear hw hS1)
  | (go_at_call 111;refine (hN _).mono ?_;rintro e w1 ⟨rfl,hb1⟩))
 go_ret3
 exact ⟨rfl,hb1⟩
theorem zsu (l : List UInt8) (a : Bool) (w : World) (hz : l.length ≤ 100000000) :
  Calls Tryz.prog 79 #[.string (str l),.bool a] w fun e w'=>e = .returned (nxV (Rf.nx a l)) ∧ Below w.heap.size w w':=by
 cases h : [38].isPrefixOf l
 ·exact zst l a w h
 ·obtain ⟨t,rfl⟩:=Rf.amp_form l h
  simp at hz
  cases h2 : [35].isPrefixOf t
  ·exact zoR t a w (by omega) h2
  ·obtain ⟨r,rfl⟩:=List.isPrefixOf_iff_prefix.1 h2
   simp at hz
   exact zqv r a w (by omega)
theorem zkh (c : Int) (v : Value) (l : List UInt8) (B : Nat) (w : World) (hz : l.length ≤ 1000000000) (hv : zao w B v l) :
  Calls Tryz.prog 80 #[v,.slice (some ⟨w.heap.size,0,none⟩) 1 1] (w.alloc (.cells #[.int .i32 c] 21)) fun e w'=>∃ v',e = .returned v' ∧ zao w' w.heap.size v' (l ++ Lib.encodeRune c) ∧ Below w.heap.size w w':=by
 have hv2 : zaZ (w.alloc (.cells #[.int .i32 c] 21)) v (zaz l):=hv.reads.below ((Below.refl _ w).alloc (Nat.le_refl _) _)
 refine (zqt v _ l [c] _ hz (by simp) hv2 (.inr ⟨w.heap.size,0,1,rfl,Nat.le_refl _,?_⟩)).mono ?_
 ·intro j x hj
  match j,hj with
  | 0,hj =>
   cases hj
   rw [Nat.zero_add,Lib.cell_of_heap (zaf w _)]
   rfl
  | (j + 1),hj=>simp [zc6] at hj
 ·rintro e w' ⟨v',rfl,ho,hb⟩
  have e1 : l ++ zgk [c] = l ++ Lib.encodeRune c:=by simp [zgk]
  rw [e1] at ho
  refine ⟨v',rfl,⟨ho.1,?_⟩,((Below.refl _ w).alloc (Nat.le_refl _) _).trans (hb.mono (by simp))⟩
  rcases ho.2 with h | ⟨g,cap,cur,h1,h2,h3⟩
  ·exact .inl h
  ·refine .inr ⟨g,cap,cur,h1,Nat.le_trans ?_ h2,h3⟩
   simp
theorem zjb {w : World} {B : Nat} {v : Value} {l : List UInt8} (h : zao w B v l) : ∃ ad cp,v = .slice ad l.length cp:=by
 rcases h.reads with ⟨a,c,rfl,h0⟩ | ⟨b,o,c,rfl,_,_⟩
 ·exact ⟨a,c,by rw [← zan,h0];rfl⟩
 ·exact ⟨_,c,by rw [zan]⟩
def RDecAt (a : Bool) (l : List UInt8) (w : World) (x v : Value) (wr : World) : Prop :=
 ∃ r acc : List UInt8,x = .string (str r) ∧ acc.length + 4 * r.length ≤ 4 * l.length ∧ zao wr w.heap.size v acc ∧ Below w.heap.size w wr ∧ Hid (acc ++ Rf.dec a r = Rf.dec a l)
theorem zao.mono {w : World} {B B' : Nat} {v : Value} {l : List UInt8} (h : zao w B v l) (hb : B' ≤ B) : zao w B' v l:=by
 refine ⟨h.1,?_⟩
 rcases h.2 with h | ⟨g,cap,cur,h1,h2,h3⟩
 ·exact .inl h
 ·exact .inr ⟨g,cap,cur,h1,Nat.le_trans hb h2,h3⟩
theorem zbU (l : List UInt8) (a : Bool) (w : World) (hz : l.length ≤ 100000000) :
  Calls Tryz.prog 50 #[.string (str l),.bool a] w fun e w'=>e = .returned (.string (str (Rf.dec a l))) ∧ Below w.heap.size w w':=by
 obtain ⟨i0,hi,hz0,hz1,hz2⟩:=info_parts infoByte
 go_enter Tryz.func50,Tryz.ntmps50
 go_wp2
 go_loopw [0,5] (fun x v wr=>RDecAt a l w x v wr) (fun x _ _=>zc8 x)
 case atStart=>exact ⟨l,[],rfl,by simp,zao.nil _ _,Below.refl _ _,rfl⟩
 case round =>
  obtain ⟨r,acc,rfl,hacc,hO,hbw,HE⟩:=hrel
  have hwz:=hbw.size
  have hsr:=zad r
  cases r with
  | nil =>
   have HF : Hid (acc = Rf.dec a l):=by
    show _ = _
    rw [← HE.out,Rf.zju,List.append_nil]
   have hcv:=zcB hO
   obtain ⟨ad,cp,rfl⟩:=zjb hO
   have h0 : ¬ (0 : Int) < 0:=by omega
   go_wp2
   go_ret
   exact ⟨by rw [← HF.out];rfl,hbw⟩
  | cons c t =>
   have hlc : (c :: t).length = t.length + 1:=List.length_cons
   rw [hlc] at hsr hacc
   have hlI : (0 : Int) < (t.length : Int) + 1:=by omega
   have hhd : ∀ h,(str (c :: t))[0]'h = c:=fun _=>rfl
   have hR:=fun W=>zsu (c :: t) a W (by rw [hlc];omega)
   have hnl:=Rf.nx_len a (c :: t)
   have HY : Hid ((Rf.nx a (c :: t)).2.2 = true → Rf.dec a (c :: t) = Go.Lib.encodeRune (Rf.nx a (c :: t)).1 ++ Rf.dec a ((c :: t).drop (Rf.nx a (c :: t)).2.1)):=Rf.dec_nx a (c :: t)
   have HN : Hid ((Rf.nx a (c :: t)).2.2 = false → Rf.dec a (c :: t) = c :: Rf.dec a t):=Rf.dec_nx_no a c t
   generalize Rf.nx a (c :: t) = q at *
   obtain ⟨x,n,b⟩:=q
   simp only at hnl HY HN
   rw [hlc] at hnl
   obtain ⟨hnl1,hnl2⟩:=hnl
   have hst1 : (str (c :: t)).extract 1 (t.length + 1) = str t:=zax (c :: t) 1
   have hstn : (str (c :: t)).extract n (t.length + 1) = str ((c :: t).drop n):=zax (c :: t) n
   unfold nxV at hR
   simp only at hR
   go_wp2_with fail
   go_at_call 79
   refine (hR _).mono ?_
   rintro e W2 ⟨rfl,b2⟩
   have hs2:=b2.size
   have hB2:=hbw.trans (b2.mono hwz)
   have hO2:=hO.below b2
   cases b
   ·have HF : Hid (acc ++ [c] ++ Rf.dec a t = Rf.dec a l):=by
     show _ = _
     rw [← HE.out,HN.out rfl]
     simp
    clear HY HN HE hR
    obtain ⟨ad,cp,rfl⟩:=zjb hO2
    go_wp2_with (at_builtin;refine wpList_append_own _ rfl _ _ 78 rfl w.heap.size 5 i0 (.int .u8 0) 1 1 Tryz.underlying78 hi hz0 hz1 hz2 rfl (by decide) _ _ _ rfl (World.ownsRow.alloc hO2 _) ⟨W2.heap.size,0,none⟩ 1 1 [.int .u8 c.toNat] rfl rfl (cell_one_new _ _ _) (fun x hx=>by simp at hx;subst hx;rfl) (by unfold maxLen;omega) (by omega) (by simp;omega) ?_)
    intro v3 W3 ho3 hg3 _
    have hB3 : Below w.heap.size w W3:=(hB2.alloc (by omega) _).grown hg3 (by simp;omega) (fun k hk=>(World.ownsRow.lt hO2 k hk).1)
    have ho3' : zao W3 w.heap.size v3 (acc ++ [c]):=by
     unfold zao
     have e1 : zaz (acc ++ [c]) = zaz acc ++ [.int .u8 c.toNat]:=by simp [zaz]
     rw [e1,List.length_append]
     exact ho3
    go_wp2
    go_roundw
    case rel=>exact ⟨t,acc ++ [c],by first | rfl | (rw [hst1]),by simp only [List.length_append,List.length_singleton];omega,ho3',hB3,HF⟩
    case measure=>simp only [zc8,zad];omega
   ·have HF : Hid (acc ++ Lib.encodeRune x ++ Rf.dec a ((c :: t).drop n) = Rf.dec a l):=by
     show _ = _
     rw [← HE.out,HY.out rfl]
     simp only [List.append_assoc]
    have hn1:=hnl2 rfl
    have hen:=Utf.zrn x
    clear HY HN HE hR
    go_wp2_with fail
    go_at_call 80
    refine (zkh x _ acc w.heap.size W2 (by omega) hO2).mono ?_
    rintro e W3 ⟨v3,rfl,ho3,b3⟩
    have hB3:=hB2.trans (b3.mono (by omega))
    have ho3':=ho3.mono (show w.heap.size ≤ W2.heap.size from by omega)
    go_wp2
    go_roundw
    case rel=>exact ⟨(c :: t).drop n,acc ++ Lib.encodeRune x,by first | rfl | (rw [hstn]),by simp only [List.length_append,List.length_drop,List.length_cons];omega,ho3',hB3,HF⟩
    case measure=>simp only [zc8,zad,List.length_drop,List.length_cons];omega
end Go.Proofs.YtiodaahncadodaaGreatDoor
