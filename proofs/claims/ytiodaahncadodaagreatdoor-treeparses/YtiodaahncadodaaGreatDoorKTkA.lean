/- Contracts of package token's small functions: what a byte may be, zca, zkD, hasOwn, isDoctype, isEndOf; ascii.Same. -/
import Derived.Test.YtiodaahncadodaaGreatDoorKRfA
import Derived.Test.YtiodaahncadodaaGreatDoorKAscii
import Derived.Test.YtiodaahncadodaaGreatDoorKRfM
set_option maxHeartbeats 400000
set_option linter.unusedVariables false
set_option linter.unusedSimpArgs false
namespace Go.Proofs.YtiodaahncadodaaGreatDoor
open Go.RowKit
theorem zbk {w wr : World} (h : ∃ m,wr = w.drewN m) (n : Nat) : ∃ m,wr.drewN n = w.drewN m:=by
 obtain ⟨m,rfl⟩:=h
 exact ⟨m + n,World.drewN_drewN _ _ _⟩
theorem zpw (a b : ByteArray) (w : World) (ha : a.size ≤ 1000000000) :
  Calls Tryz.prog 146 #[.string a,.string b] w fun e w'=>e = .returned (.bool (decide (Asc.zbJ a.data.toList = Asc.zbJ b.data.toList))) ∧ ∃ n,w' = w.drewN n:=by
 by_cases hlen : a.size = b.size
 ·have hq : ((a.size : Int) != (b.size : Int)) = false:=by simp [hlen]
  have HL : Hid (a.size = b.size):=hlen
  clear hlen
  go_enter Tryz.func146,Tryz.ntmps146
  go_wp2
  go_loopw [13] (fun i wr=>∃ k : Nat,k ≤ a.size ∧ i = .int .i64 k ∧ Hid (Asc.zbJ (a.data.toList.take k) = Asc.zbJ (b.data.toList.take k)) ∧ Hid (∃ m,wr = w.drewN m)) (fun i _=>a.size - (intOf i).toNat)
  case atStart=>exact ⟨0,Nat.zero_le _,rfl,rfl,0,rfl⟩
  case round =>
   obtain ⟨k,hk,rfl,HE,HW⟩:=hrel
   by_cases hlt : k < a.size
   ·have hlt2 : k < b.size:=by have:=HL.out;omega
    by_cases hc : Asc.zbX a[k] = Asc.zbX b[k]
    ·have hq2 : ((Asc.zbX a[k]).toNat != (Asc.zbX b[k]).toNat) = false:=by simp [hc]
     have hq3 : (((Asc.zbX a[k]).toNat : Int) != ((Asc.zbX b[k]).toNat : Int)) = false:=by simp [hc]
     have HN : Hid (Asc.zbJ (a.data.toList.take (k + 1)) = Asc.zbJ (b.data.toList.take (k + 1))):=by
      show _ = _
      rw [List.take_succ_eq_append_getElem (show k < a.data.toList.length from hlt),List.take_succ_eq_append_getElem (show k < b.data.toList.length from hlt2),Asc.lower_snoc,Asc.lower_snoc,HE.out]
      exact congrArg (fun c=>Asc.zbJ (b.data.toList.take k) ++ [c]) hc
     clear hc
     go_wp2
     go_quiet ((go_at_call 175;exact Calls.quiet_of_same (zcI _ _)))
     go_wp2
     go_roundw
     case rel=>exact ⟨k + 1,by omega,by go_num,HN,zbk HW.out nq⟩
     case measure=>simp [intOf];omega
    ·have hq2 : ¬ ((Asc.zbX a[k]).toNat : Int) = ((Asc.zbX b[k]).toNat : Int):=fun h=>hc (UInt8.toNat_inj.1 (by omega))
     have hq3 : (((Asc.zbX a[k]).toNat : Int) != ((Asc.zbX b[k]).toNat : Int)) = true:=by rw [bne_iff_ne];exact hq2
     have HN : Hid (decide (Asc.zbJ a.data.toList = Asc.zbJ b.data.toList) = false):=by
      show _ = _
      rw [decide_eq_false_iff_not]
      intro he
      apply hc
      have h1 : (Asc.zbJ a.data.toList)[k]? = (Asc.zbJ b.data.toList)[k]?:=by rw [he]
      unfold Asc.zbJ at h1
      rw [List.getElem?_map,List.getElem?_map,List.getElem?_eq_getElem (show k < a.data.toList.length from hlt),List.getElem?_eq_getElem (show k < b.data.toList.length from hlt2)] at h1
      simp only [Option.map_some,Option.some.injEq] at h1
      exact h1
     clear hc
     go_wp2
     go_quiet ((go_at_call 175;exact Calls.quiet_of_same (zcI _ _)))
     go_wp2
     go_ret
     exact ⟨zac HN.out.symm,zbk HW.out nq⟩
   ·have HN : Hid (decide (Asc.zbJ a.data.toList = Asc.zbJ b.data.toList) = true):=by
     show _ = _
     rw [decide_eq_true_eq]
     have h1:=HE.out
     have h2:=HL.out
     rwa [zb8 a k (by omega),zb8 b k (by omega)] at h1
    go_wp2
    go_ret
    exact ⟨zac HN.out.symm,HW.out⟩
 ·have hq : ((a.size : Int) != (b.size : Int)) = true:=by simp;omega
  have HN : Hid (decide (Asc.zbJ a.data.toList = Asc.zbJ b.data.toList) = false):=by
   show _ = _
   rw [decide_eq_false_iff_not]
   intro he
   have:=congrArg List.length he
   simp [Asc.zbJ] at this
   exact hlen this
  clear hlen
  go_enter Tryz.func146,Tryz.ntmps146
  go_wp2
  go_ret
  exact ⟨zac HN.out.symm,0,rfl⟩
theorem zav {w w' : World} (h : ∃ n,w' = w.drewN n) : Below w.heap.size w w':=by
 obtain ⟨n,rfl⟩:=h
 exact ⟨rfl,rfl,rfl,Nat.le_refl _,fun _ _=>rfl⟩
theorem zq1 (a b : List UInt8) (w : World) (ha : a.length ≤ 1000000000) :
  Calls Tryz.prog 146 #[.string (str a),.string (str b)] w fun e w'=>e = .returned (.bool (decide (Asc.zbJ a = Asc.zbJ b))) ∧ Below w.heap.size w w':=by
 have h:=zpw (str a) (str b) w (by rw [zad];exact ha)
 rw [zam,zam] at h
 refine h.mono ?_
 rintro e w' ⟨rfl,h⟩
 exact ⟨rfl,zav h⟩
def gp (c : UInt8) : Bool:=Asc.zbn c || c == 47
theorem tn_gp (c : UInt8) : Tk.tn c = (!gp c && c != 62):=by
 unfold Tk.tn gp
 cases Asc.zbn c <;> simp [bne]
theorem zcb (c : UInt8) (k : Nat) (hk : k < 256) : ((c.toNat : Int) == (k : Int)) = (c == UInt8.ofNat k):=by
 by_cases h : c = UInt8.ofNat k
 ·subst h
  have : (UInt8.ofNat k).toNat = k:=by simp [UInt8.toNat_ofNat'];omega
  rw [this]
  simp
 ·rw [beq_eq_false_iff_ne.2 h,beq_eq_false_iff_ne]
  intro e
  apply h
  have e2 : c.toNat = k:=by omega
  rw [← e2]
  simp
theorem zfB (c : UInt8) (w : World) :
  Calls Tryz.prog 156 #[.int .u8 c.toNat] w fun e w'=>e = .returned (.bool (gp c)) ∧ w' = w:=by
 have HV : Hid (gp c = (Asc.zbn c || c == 47)):=rfl
 have hB:=zdK c
 have HQ : Hid (((c.toNat : Int) == 47) = (c == 47)):=zcb c 47 (by omega)
 cases hx : Asc.zbn c
 ·rw [hx] at hB
  go_enter Tryz.func156,Tryz.ntmps156
  go_wp2_with (go_at_call 180;refine (hB _).mono ?_;rintro e w1 ⟨rfl,hw⟩;rw [hw];clear hw)
  go_ret
  exact ⟨zac (by rw [HV.out,hx,← HQ.out];rfl),rfl⟩
 ·rw [hx] at hB
  go_enter Tryz.func156,Tryz.ntmps156
  go_wp2_with (go_at_call 180;refine (hB _).mono ?_;rintro e w1 ⟨rfl,hw⟩;rw [hw];clear hw)
  go_ret
  exact ⟨zac (by rw [HV.out,hx];rfl),rfl⟩
theorem zcK (c : UInt8) (w : World) :
  Calls Tryz.prog 147 #[.int .u8 c.toNat] w fun e w'=>e = .returned (.bool (Tk.tn c)) ∧ w' = w:=by
 have HV : Hid (Tk.tn c = (!gp c && c != 62)):=tn_gp c
 have hB:=zfB c
 have HQ : Hid (((c.toNat : Int) == 62) = (c == 62)):=zcb c 62 (by omega)
 cases hx : gp c
 ·rw [hx] at hB
  go_enter Tryz.func147,Tryz.ntmps147
  go_wp2_with (go_at_call 156;refine (hB _).mono ?_;rintro e w1 ⟨rfl,hw⟩;rw [hw];clear hw)
  go_ret
  exact ⟨zac (by first | (rw [HV.out,hx];rfl) | (rw [HV.out,hx];unfold bne;rw [← HQ.out];first | rfl | simp)),rfl⟩
 ·rw [hx] at hB
  go_enter Tryz.func147,Tryz.ntmps147
  go_wp2_with (go_at_call 156;refine (hB _).mono ?_;rintro e w1 ⟨rfl,hw⟩;rw [hw];clear hw)
  go_ret
  exact ⟨zac (by first | (rw [HV.out,hx];rfl) | (rw [HV.out,hx];unfold bne;rw [← HQ.out];first | rfl | simp)),rfl⟩
theorem ze6 (c : UInt8) (w : World) :
  Calls Tryz.prog 183 #[.int .u8 c.toNat] w fun e w'=>e = .returned (.bool (Tk.an c)) ∧ w' = w:=by
 have HV : Hid (Tk.an c = (Tk.tn c && c != 61)):=rfl
 have hB:=zcK c
 have HQ : Hid (((c.toNat : Int) == 61) = (c == 61)):=zcb c 61 (by omega)
 cases hx : Tk.tn c
 ·rw [hx] at hB
  go_enter Tryz.func183,Tryz.ntmps183
  go_wp2_with (go_at_call 147;refine (hB _).mono ?_;rintro e w1 ⟨rfl,hw⟩;rw [hw];clear hw)
  go_ret
  exact ⟨zac (by first | (rw [HV.out,hx];rfl) | (rw [HV.out,hx];unfold bne;rw [← HQ.out];first | rfl | simp)),rfl⟩
 ·rw [hx] at hB
  go_enter Tryz.func183,Tryz.ntmps183
  go_wp2_with (go_at_call 147;refine (hB _).mono ?_;rintro e w1 ⟨rfl,hw⟩;rw [hw];clear hw)
  go_ret
  exact ⟨zac (by first | (rw [HV.out,hx];rfl) | (rw [HV.out,hx];unfold bne;rw [← HQ.out];first | rfl | simp)),rfl⟩
theorem zhr (c : UInt8) (w : World) :
  Calls Tryz.prog 198 #[.int .u8 c.toNat] w fun e w'=>e = .returned (.bool (Tk.vn c)) ∧ w' = w:=by
 have HV : Hid (Tk.vn c = (!Asc.zbn c && c != 62)):=rfl
 have hB:=zdK c
 have HQ : Hid (((c.toNat : Int) == 62) = (c == 62)):=zcb c 62 (by omega)
 cases hx : Asc.zbn c
 ·rw [hx] at hB
  go_enter Tryz.func198,Tryz.ntmps198
  go_wp2_with (go_at_call 180;refine (hB _).mono ?_;rintro e w1 ⟨rfl,hw⟩;rw [hw];clear hw)
  go_ret
  exact ⟨zac (by first | (rw [HV.out,hx];rfl) | (rw [HV.out,hx];unfold bne;rw [← HQ.out];first | rfl | simp)),rfl⟩
 ·rw [hx] at hB
  go_enter Tryz.func198,Tryz.ntmps198
  go_wp2_with (go_at_call 180;refine (hB _).mono ?_;rintro e w1 ⟨rfl,hw⟩;rw [hw];clear hw)
  go_ret
  exact ⟨zac (by first | (rw [HV.out,hx];rfl) | (rw [HV.out,hx];unfold bne;rw [← HQ.out];first | rfl | simp)),rfl⟩
def zdt (p l : List UInt8) : Bool:=p.isPrefixOf l && Tk.zd1 (l.drop p.length)
theorem zfC (p l : List UInt8) (w : World) :
  Calls Tryz.prog 85 #[.string (str p),.string (str l)] w fun e w'=>e = .returned (.bool (zdt p l)) ∧ w' = w:=by
 have HV : Hid (zdt p l = (p.isPrefixOf l && Tk.zd1 (l.drop p.length))):=rfl
 have hC:=zcJ l p
 cases hp : p.isPrefixOf l
 ·rw [hp] at hC HV
  simp only [Bool.false_eq_true,if_false] at hC
  go_enter Tryz.func85,Tryz.ntmps85
  go_wp2_with (go_at_call 122;refine (hC _).mono ?_;rintro e w1 ⟨rfl,hw⟩;rw [hw];clear hw)
  go_ret
  exact ⟨zac (by rw [HV.out];rfl),rfl⟩
 ·rw [hp] at hC HV
  simp only [if_true] at hC
  generalize l.drop p.length = r at hC HV
  have hsz:=zad r
  cases r with
  | nil =>
   have hne : ((str ([] : List UInt8)).toList.isEmpty) = true:=by rw [zaE];rfl
   go_enter Tryz.func85,Tryz.ntmps85
   go_wp2_with (go_at_call 122;refine (hC _).mono ?_;rintro e w1 ⟨rfl,hw⟩;rw [hw];clear hw)
   go_ret
   exact ⟨zac (by rw [HV.out];rfl),rfl⟩
  | cons c t =>
   have hne : ((str (c :: t)).toList.isEmpty) = false:=by rw [zaE];rfl
   rw [List.length_cons] at hsz
   have hhd : ∀ h,(str (c :: t))[0]'h = c:=fun _=>rfl
   have hI:=zeB c
   go_enter Tryz.func85,Tryz.ntmps85
   go_wp2_with (first
    | (go_at_call 122;refine (hC _).mono ?_;rintro e w1 ⟨rfl,hw⟩;rw [hw];clear hw)
    | (go_at_call 123;refine (hI _).mono ?_;rintro e w1 ⟨rfl,hw⟩;rw [hw];clear hw))
   go_ret
   exact ⟨zac (by rw [HV.out];rfl),rfl⟩
theorem zgI (l : List UInt8) : Tk.zca l = (zdt [60] l || ([60,47].isPrefixOf l || [60,33].isPrefixOf l || [60,63].isPrefixOf l)):=by
 match l with
 | []=>rfl
 | [c] =>
  unfold zdt
  by_cases hc : c = 60
  ·subst hc;rfl
  ·have : (60 == c) = false:=beq_eq_false_iff_ne.2 fun e=>hc e.symm
   simp [Tk.zca,List.isPrefixOf,this]
 | c :: d :: t =>
  unfold zdt
  by_cases hc : c = 60
  ·subst hc
   have e1 : (47 == d) = (d == 47):=Bool.beq_comm ..
   have e2 : (33 == d) = (d == 33):=Bool.beq_comm ..
   have e3 : (63 == d) = (d == 63):=Bool.beq_comm ..
   show (Tk.zlp d || d == 47 || d == 33 || d == 63) = ((60 == 60 && true) && Tk.zlp d || ((60 == 60 && (47 == d && true)) || (60 == 60 && (33 == d && true)) || (60 == 60 && (63 == d && true))))
   simp [e1,e2,e3,Bool.or_assoc]
  ·have : (60 == c) = false:=beq_eq_false_iff_ne.2 fun e=>hc e.symm
   have h0 : Tk.zca (c :: d :: t) = false:=by
    unfold Tk.zca
    split
    ·rename_i e;cases e;exact absurd rfl hc
    ·rfl
   rw [h0]
   simp [List.isPrefixOf,this]
theorem zgJ (l : List UInt8) (w : World) :
  Calls Tryz.prog 90 #[.string (str l)] w fun e w'=>e = .returned (.bool (Tk.zca l)) ∧ w' = w:=by
 have HV : Hid (Tk.zca l = _):=zgI l
 have h0:=zfC [60] l
 have h1:=zaQ l [60,47]
 have h2:=zaQ l [60,33]
 have h3:=zaQ l [60,63]
 generalize zdt [60] l = b0 at *
 generalize [60,47].isPrefixOf l = b1 at *
 generalize [60,33].isPrefixOf l = b2 at *
 generalize [60,63].isPrefixOf l = b3 at *
 cases b0
 ·cases b1
  ·cases b2
   all_goals
    go_enter Tryz.func90,Tryz.ntmps90
    go_wp2_with (first
     | (go_at_call 85;refine (h0 _).mono ?_;rintro e w1 ⟨rfl,hw⟩;rw [hw];clear hw)
     | (go_at_call 127;refine (h1 _).mono ?_;rintro e w1 ⟨rfl,hw⟩;rw [hw];clear hw h1)
     | (go_at_call 127;refine (h2 _).mono ?_;rintro e w1 ⟨rfl,hw⟩;rw [hw];clear hw h2)
     | (go_at_call 127;refine (h3 _).mono ?_;rintro e w1 ⟨rfl,hw⟩;rw [hw];clear hw h3))
    go_ret
    exact ⟨zac (by rw [HV.out];rfl),rfl⟩
  ·go_enter Tryz.func90,Tryz.ntmps90
   go_wp2_with (first
     | (go_at_call 85;refine (h0 _).mono ?_;rintro e w1 ⟨rfl,hw⟩;rw [hw];clear hw)
     | (go_at_call 127;refine (h1 _).mono ?_;rintro e w1 ⟨rfl,hw⟩;rw [hw];clear hw h1))
   go_ret
   exact ⟨zac (by rw [HV.out];rfl),rfl⟩
 ·go_enter Tryz.func90,Tryz.ntmps90
  go_wp2_with (go_at_call 85;refine (h0 _).mono ?_;rintro e w1 ⟨rfl,hw⟩;rw [hw];clear hw)
  go_ret
  exact ⟨zac (by rw [HV.out];rfl),rfl⟩
theorem zlv (l : List UInt8) (w : World) :
  Calls Tryz.prog 125 #[.string (str l)] w fun e w'=>e = .returned (.bool (Tk.zrI l)) ∧ w' = w:=by
 have HV : Hid (Tk.zrI l = (l == [115,99,114,105,112,116] || l == [115,116,121,108,101] || l == [116,101,120,116,97,114,101,97] || l == [116,105,116,108,101])):=rfl
 by_cases h0 : l = [115,99,114,105,112,116]
 ·have q0:=zap h0
  have HX : Hid (Tk.zrI l = true):=by show _ = _;rw [h0];decide
  clear HV h0
  go_enter Tryz.func125,Tryz.ntmps125
  go_wp2
  go_ret
  exact ⟨zac HX.out.symm,rfl⟩
 have q0:=zay h0
 by_cases h1 : l = [115,116,121,108,101]
 ·have q1:=zap h1
  have HX : Hid (Tk.zrI l = true):=by show _ = _;rw [h1];decide
  clear HV h1
  go_enter Tryz.func125,Tryz.ntmps125
  go_wp2
  go_ret
  exact ⟨zac HX.out.symm,rfl⟩
 have q1:=zay h1
 by_cases h2 : l = [116,101,120,116,97,114,101,97]
 ·have q2:=zap h2
  have HX : Hid (Tk.zrI l = true):=by show _ = _;rw [h2];decide
  clear HV h2
  go_enter Tryz.func125,Tryz.ntmps125
  go_wp2
  go_ret
  exact ⟨zac HX.out.symm,rfl⟩
 have q2:=zay h2
 by_cases h3 : l = [116,105,116,108,101]
 ·have q3:=zap h3
  have HX : Hid (Tk.zrI l = true):=by show _ = _;rw [h3];decide
  clear HV h3
  go_enter Tryz.func125,Tryz.ntmps125
  go_wp2
  go_ret
  exact ⟨zac HX.out.symm,rfl⟩
 have q3:=zay h3
 have HX : Hid (Tk.zrI l = false):=by
  show _ = _
  rw [HV.out,beq_eq_false_iff_ne.2 h0,beq_eq_false_iff_ne.2 h1,beq_eq_false_iff_ne.2 h2,beq_eq_false_iff_ne.2 h3]
  rfl
 clear HV h0 h1 h2 h3
 go_enter Tryz.func125,Tryz.ntmps125
 go_wp2
 go_ret
 exact ⟨zac HX.out.symm,rfl⟩
theorem zgK (w s : List UInt8) (hl : Asc.zbJ w = w) : Tk.zkD w s = (decide (w.length ≤ s.length) && decide (Asc.zbJ (s.take w.length) = Asc.zbJ w)):=by
 unfold Tk.zkD
 rw [hl]
 congr 1
 by_cases h : Asc.zbJ (s.take w.length) = w
 ·rw [decide_eq_true h,h];simp
 ·rw [decide_eq_false h];exact beq_eq_false_iff_ne.2 h
theorem zhs (l : List UInt8) (w : World) (hz : l.length ≤ 1000000000) :
  Calls Tryz.prog 128 #[.string (str l)] w fun e w'=>e = .returned (.bool (Tk.zkD Tk.zrG l)) ∧ Below w.heap.size w w':=by
 have HV : Hid (Tk.zkD Tk.zrG l = (decide (9 ≤ l.length) && decide (Asc.zbJ (l.take 9) = Asc.zbJ Tk.zrG))):=zgK Tk.zrG l (by decide +kernel)
 have hsz:=zad l
 by_cases h9 : 9 ≤ l.length
 ·have hS:=zq1 (l.take 9) Tk.zrG w (by rw [List.length_take];omega)
  have hI : (9 : Int) ≤ (l.length : Int):=by omega
  have he : (str l).extract 0 9 = str (l.take 9):=zbx l 9
  go_enter Tryz.func128,Tryz.ntmps128
  go_wp2_with (go_at_call 146;(try rw [he]);refine hS.mono ?_;rintro e w1 ⟨rfl,hw⟩)
  go_ret
  exact ⟨zac (by rw [HV.out,decide_eq_true h9];simp),hw⟩
 ·have hI : ¬ (9 : Int) ≤ (l.length : Int):=by omega
  go_enter Tryz.func128,Tryz.ntmps128
  go_wp2
  go_ret
  exact ⟨zac (by rw [HV.out,decide_eq_false h9];rfl),Below.refl _ _⟩
def ze7 (name s : List UInt8) : Bool:=Tk.zkD name s && Tk.endsIt (s.drop name.length)
theorem zne (c : UInt8) (t : List UInt8) : Tk.endsIt (c :: t) = !Tk.tn c:=by
 show (Asc.zbn c || c == 47 || c == 62) = !(!Asc.zbn c && c != 47 && c != 62)
 cases Asc.zbn c <;> simp [bne]
theorem zjB (n l : List UInt8) (w : World) (hl : Asc.zbJ n = n) (hz : l.length ≤ 1000000000) (hzn : n.length ≤ 1000000000) :
  Calls Tryz.prog 119 #[.string (str n),.string (str l)] w fun e w'=>e = .returned (.bool (ze7 n l)) ∧ Below w.heap.size w w':=by
 have HV : Hid (ze7 n l = ((decide (n.length ≤ l.length) && decide (Asc.zbJ (l.take n.length) = Asc.zbJ n)) && Tk.endsIt (l.drop n.length))):=by
  show _ = _
  unfold ze7
  rw [zgK n l hl]
 have hsz:=zad l
 have hsn:=zad n
 by_cases h9 : n.length ≤ l.length
 ·have hS:=zq1 (l.take n.length) n w (by rw [List.length_take];omega)
  have hI : ¬ (l.length : Int) < (n.length : Int):=by omega
  have he : (str l).extract 0 n.length = str (l.take n.length):=zbx l _
  rw [decide_eq_true h9] at HV
  by_cases hq : Asc.zbJ (l.take n.length) = Asc.zbJ n
  ·rw [decide_eq_true hq] at hS HV
   by_cases hlen : l.length = n.length
   ·have hd : l.drop n.length = []:=List.drop_eq_nil_of_le (by omega)
    have HX : Hid (ze7 n l = true):=by show _ = _;rw [HV.out,hd];rfl
    have hi2 : ((l.length : Int) == (n.length : Int)) = true:=by rw [hlen];simp
    clear HV hlen hd hl
    go_enter Tryz.func119,Tryz.ntmps119
    go_wp2_with (go_at_call 146;(try rw [he]);refine hS.mono ?_;rintro e w1 ⟨rfl,hw⟩)
    go_ret
    exact ⟨zac (by rw [HX.out];try (first | rfl | simp)),hw⟩
   ·have hlt : n.length < l.length:=by omega
    have hd : l.drop n.length = l[n.length] :: l.drop (n.length + 1):=List.drop_eq_getElem_cons hlt
    have HX : Hid (ze7 n l = !Tk.tn l[n.length]):=by show _ = _;rw [HV.out,hd,zne];rfl
    have hi2 : ((l.length : Int) == (n.length : Int)) = false:=by rw [beq_eq_false_iff_ne];omega
    have hI2:=zcK l[n.length]
    have hlt2 : n.length < (str l).size:=by omega
    have hat : (str l)[n.length] = l[n.length]:=rfl
    clear HV hlen hd hl
    go_enter Tryz.func119,Tryz.ntmps119
    go_wp2_with (first
     | (go_at_call 146;(try rw [he]);refine hS.mono ?_;rintro e w1 ⟨rfl,hw⟩)
     | (go_at_call 147;(try rw [hat]);refine (hI2 _).mono ?_;rintro e w2 ⟨rfl,hw2⟩;rw [hw2];clear hw2))
    go_ret
    exact ⟨zac (by rw [HX.out];try (first | rfl | simp)),hw⟩
  ·rw [decide_eq_false hq] at hS HV
   go_enter Tryz.func119,Tryz.ntmps119
   go_wp2_with (go_at_call 146;(try rw [he]);refine hS.mono ?_;rintro e w1 ⟨rfl,hw⟩)
   go_ret
   exact ⟨zac (by rw [HV.out];rfl),hw⟩
 ·have hI : (l.length : Int) < (n.length : Int):=by omega
  go_enter Tryz.func119,Tryz.ntmps119
  go_wp2
  go_ret
  exact ⟨zac (by rw [HV.out,decide_eq_false h9];rfl),Below.refl _ _⟩
end Go.Proofs.YtiodaahncadodaaGreatDoor
