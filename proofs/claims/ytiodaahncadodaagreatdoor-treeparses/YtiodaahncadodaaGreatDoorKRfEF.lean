/- Texts laid as one. -/
import Derived.Test.YtiodaahncadodaaGreatDoorKRfA
import Derived.Test.YtiodaahncadodaaGreatDoorKUPut
import Derived.Lib.LaidTab
set_option maxRecDepth 100000
set_option maxHeartbeats 2000000
set_option linter.unusedVariables false
set_option linter.unusedSimpArgs false
namespace Go.Proofs.YtiodaahncadodaaGreatDoor
open Go.RowKit
def orL : List Int → Int
 | []=>0
 | a :: r=>if a ≠ 0 then a else orL r
theorem zpB (cs : List Int) (k : Nat) (h : k < cs.length) (hz : cs[k] = 0) : orL (cs.drop (k + 1)) = orL (cs.drop k):=by
 rw [List.drop_eq_getElem_cons h,orL,hz]
 simp
theorem zpC (cs : List Int) (k : Nat) (h : k < cs.length) (hz : cs[k] ≠ 0) : orL (cs.drop k) = cs[k]:=by
 rw [List.drop_eq_getElem_cons h,orL,if_pos hz]
theorem Or_any (b : Nat) (cs : List Int) (w : World) (hy : cs.length ≤ 1000000000) (hu : ∀ (j : Nat) c,cs[j]? = some c → w.cell? ⟨b,j,none⟩ = some (.int .i32 c)) :
  Calls Tryz.prog 205 #[.slice (some ⟨b,0,none⟩) cs.length cs.length] w fun e w'=>e = .returned (.int .i32 (orL cs)) ∧ w' = w:=by
 have HU : Hid (∀ (j : Nat) c,cs[j]? = some c → w.cell? ⟨b,j,none⟩ = some (.int .i32 c)):=hu
 clear hu
 go_enter Tryz.func205,Tryz.ntmps205
 go_wp2
 go_loop [8] (fun i=>∃ k : Nat,k ≤ cs.length ∧ i = .int .i64 k ∧ Hid (orL (cs.drop k) = orL cs)) (fun i=>cs.length - (intOf i).toNat)
 case atStart=>exact ⟨0,Nat.zero_le _,rfl,rfl⟩
 case round =>
  obtain ⟨k,hk,rfl,HE⟩:=hrel
  by_cases hlt : k < cs.length
  ·have hcell:=HU.out k cs[k] (List.getElem?_eq_getElem hlt)
   by_cases hz : cs[k] = 0
   ·have HN : Hid (orL (cs.drop (k + 1)) = orL cs):=(zpB cs k hlt hz).trans HE.out
    rw [hz] at hcell
    go_wp2
    go_round
    case rel=>exact ⟨k + 1,by omega,by go_num,HN⟩
    case measure=>simp [intOf];omega
   ·have HN : Hid (orL cs = cs[k]):=HE.out.symm.trans (zpC cs k hlt hz)
    generalize cs[k] = c at hcell hz HN
    have hz2 : (c == 0) = false:=beq_eq_false_iff_ne.2 hz
    go_wp2
    go_ret
    exact ⟨zaj HN.out.symm,rfl⟩
  ·have HN : Hid (orL cs = 0):=by
    show _ = _
    rw [← HE.out,List.drop_eq_nil_of_le (by omega)]
    rfl
   go_wp2
   go_ret
   exact ⟨zaj HN.out.symm,rfl⟩
theorem zrS (a b c d : Int) : orL [a,b,c,d] = Rf.or1 a (Rf.or1 b (Rf.or1 c d)):=by
 unfold Rf.or1
 simp only [orL]
 repeat' split
 all_goals simp_all
theorem zly (w : World) (a b c d : Int) (T : Nat) : ∀ (j : Nat) x,[a,b,c,d][j]? = some x → (w.alloc (.cells #[.int .i32 a,.int .i32 b,.int .i32 c,.int .i32 d] T)).cell? ⟨w.heap.size,j,none⟩ = some (.int .i32 x):=by
 intro j x hj
 have hlt : j < 4:=(List.getElem?_eq_some_iff.1 hj).1
 unfold World.cell?
 rw [zaf]
 match j,hlt with
 | 0,_ | 1,_ | 2,_ | 3,_=>simp at hj;subst hj;rfl
theorem zlz (l : List UInt8) (w : World) :
  Calls Tryz.prog 201 #[.string (str l)] w fun e w'=>e = .returned (.int .i32 (Rf.sgn l)) ∧ Below w.heap.size w w':=by
 have h1:=zd4 l
 have h2:=zif l
 have h3:=zgs l
 have h4:=zig l
 rw [← Rf.sgn_or l]
 generalize Rf.zdL Rf.zbj l = a at h1
 generalize Rf.zdL Rf.zmw l = b at h2
 generalize Rf.zdL Rf.zfv l = c at h3
 generalize Rf.zdL Rf.zmx l = d at h4
 have h5:=Or_any w.heap.size [a,b,c,d] (w.alloc (.cells #[.int .i32 a,.int .i32 b,.int .i32 c,.int .i32 d] 21)) (by simp) (zly w a b c d _)
 rw [zrS] at h5
 generalize Rf.or1 a (Rf.or1 b (Rf.or1 c d)) = x at h5
 go_enter Tryz.func201,Tryz.ntmps201
 go_wp2_with (first
  | (go_at_call 196;refine (h1 _).mono ?_;rintro e w1 ⟨rfl,hw⟩;rw [hw];clear hw)
  | (go_at_call 206;refine (h2 _).mono ?_;rintro e w1 ⟨rfl,hw⟩;rw [hw];clear hw)
  | (go_at_call 207;refine (h3 _).mono ?_;rintro e w1 ⟨rfl,hw⟩;rw [hw];clear hw)
  | (go_at_call 208;refine (h4 _).mono ?_;rintro e w1 ⟨rfl,hw⟩;rw [hw];clear hw)
  | (go_at_call 205;refine h5.mono ?_;rintro e w1 ⟨rfl,hw⟩;rw [hw];clear hw))
 go_ret
 exact ⟨rfl,(Below.refl _ w).alloc (Nat.le_refl _) _⟩
theorem zpD (l : List UInt8) (w : World) :
  Calls Tryz.prog 195 #[.string (str l)] w fun e w'=>e = .returned (.tuple #[.int .i32 (Rf.sgn l),.bool (Rf.sgn l != 0)]) ∧ Below w.heap.size w w':=by
 have h1:=zlz l
 generalize Rf.sgn l = x at h1
 go_enter Tryz.func195,Tryz.ntmps195
 go_wp2_with (go_at_call 201;refine (h1 _).mono ?_;rintro e w1 ⟨rfl,hb1⟩)
 go_ret2
 exact ⟨zbo rfl (by first | rfl | simp [bne]),hb1⟩
def Win (w : World) : Prop:=Lib.TabIs Tryz.prog w "cringle/refs.windows" .i32 Rf.zmy
theorem gWin : Tryz.prog.globalNamed "cringle/refs.windows" = some 3:=by kernel_rfl
theorem Win.cell {w : World} (h : Win w) (k : Nat) (hk : k < 32) : w.cell? ⟨3,k,none⟩ = some (.int .i32 (Rf.win k)):=Lib.TabIs.cell h gWin k hk
theorem Win.lt {w : World} (h : Win w) : 3 < w.heap.size:=zaK (h.cell 0 (by decide))
theorem Win.below {w w' : World} (h : Win w) (hb : Below w.heap.size w w') : Win w':=var?_below hb gWin h.lt h
theorem znn {n : Int} (h : n = 0 ∨ 1114111 < n ∨ (55296 ≤ n ∧ n ≤ 57343)) : Rf.zb1 n = 65533:=by unfold Rf.zb1;rw [if_pos h]
theorem zno {n : Int} (h : ¬ (n = 0 ∨ 1114111 < n ∨ (55296 ≤ n ∧ n ≤ 57343))) (h2 : ¬ (128 ≤ n ∧ n ≤ 159)) : Rf.zb1 n = n:=by unfold Rf.zb1;rw [if_neg h,if_neg (by omega)]
theorem zkI {k : Nat} (h : k < 32) (h2 : Rf.win k ≠ 0) : Rf.zb1 ((k : Int) + 128) = Rf.win k:=by
 unfold Rf.zb1
 rw [if_neg (by omega),show ((k : Int) + 128 - 128).toNat = k from by omega,if_pos ⟨by omega,by omega,h2⟩]
theorem zkJ {k : Nat} (h : k < 32) (h2 : Rf.win k = 0) : Rf.zb1 ((k : Int) + 128) = (k : Int) + 128:=by
 unfold Rf.zb1
 rw [if_neg (by omega),show ((k : Int) + 128 - 128).toNat = k from by omega,if_neg (by simp [h2])]
theorem zgL (n : Int) (h0 : 0 ≤ n) : (Rf.zb1 n = 65533 ∧ (n = 0 ∨ (55296 ≤ n ∧ n ≤ 57343) ∨ 1114111 < n)) ∨ (Rf.zb1 n = n ∧ ((0 < n ∧ n < 128) ∨ (159 < n ∧ n < 55296) ∨ (57343 < n ∧ n ≤ 1114111))) ∨ ∃ k : Nat,n = (k : Int) + 128 ∧ k < 32:=by
 by_cases h : n = 0 ∨ 1114111 < n ∨ (55296 ≤ n ∧ n ≤ 57343)
 ·exact .inl ⟨znn h,by omega⟩
 ·by_cases h2 : 128 ≤ n ∧ n ≤ 159
  ·exact .inr (.inr ⟨(n - 128).toNat,by omega,by omega⟩)
  ·exact .inr (.inl ⟨zno h h2,by omega⟩)
theorem zc7 (n : Int) (w : World) (h0 : 0 ≤ n) (h1 : n ≤ 4294967295) (hW : Win w) :
  Calls Tryz.prog 193 #[.int .u32 n] w fun e w'=>e = .returned (.int .i32 (Rf.zb1 n)) ∧ w' = w:=by
 rcases zgL n h0 with ⟨hv,h⟩ | ⟨hv,h⟩ | ⟨k,rfl,hk⟩
 ·rw [hv]
  clear hv hW
  rcases h with rfl | ⟨ha,hb⟩ | h
  all_goals
   go_enter Tryz.func193,Tryz.ntmps193
   go_wp2
   go_ret
   exact ⟨rfl,rfl⟩
 ·have HV : Hid (Rf.zb1 n = n):=hv
  clear hv hW
  rcases h with ⟨ha,hb⟩ | ⟨ha,hb⟩ | ⟨ha,hb⟩
  all_goals
   go_enter Tryz.func193,Tryz.ntmps193
   go_wp2
   go_ret
   exact ⟨zaj (by rw [HV.out]),rfl⟩
 ·have hc:=hW.cell k hk
  have hn1 : (128 : Int) ≤ (k : Int) + 128:=by omega
  have hn2 : (k : Int) + 128 ≤ 159:=by omega
  clear hW
  by_cases hz : Rf.win k = 0
  ·rw [hz] at hc
   rw [zkJ hk hz]
   clear hz
   rw [show k = ((k : Int) + 128 - 128).toNat from by omega] at hc
   generalize (k : Int) + 128 = n at *
   go_enter Tryz.func193,Tryz.ntmps193
   go_wp2
   go_ret
   exact ⟨zaj (by first | rfl | omega),rfl⟩
  ·rw [zkI hk hz]
   have hz2 : (Rf.win k == 0) = false:=beq_eq_false_iff_ne.2 hz
   generalize Rf.win k = x at hc hz hz2
   rw [show k = ((k : Int) + 128 - 128).toNat from by omega] at hc
   generalize (k : Int) + 128 = n at *
   go_enter Tryz.func193,Tryz.ntmps193
   go_wp2
   go_ret
   exact ⟨zaj (by first | rfl | omega),rfl⟩
theorem Pre {l p : List UInt8} {b : Bool} (h : p.isPrefixOf l = b) (w : World) :
  Calls Tryz.prog 127 #[.string (str l),.string (str p)] w fun e w'=>e = .returned (.bool b) ∧ w' = w:=by
 have:=zaQ l p w
 rw [h] at this
 exact this
theorem zjC (l : List UInt8) (f n : Nat) : (str l).extract f (f + n) = str ((l.drop f).take n):=by
 apply zcS
 rw [zfc,zam,List.drop_take]
 congr 1
 omega
theorem zd7 (t : List UInt8) : (t.drop (Rf.fr (Rf.zc0 t))).take (Rf.zc1 t).length = Rf.zc1 t:=by
 unfold Rf.zc1
 generalize t.drop (Rf.fr (Rf.zc0 t)) = u
 generalize Rf.dOk (Rf.zc0 t) = p
 induction u with
 | nil=>rfl
 | cons c r ih =>
  rw [List.takeWhile_cons]
  cases h : p c
  ·rfl
  ·simp [ih]
theorem zhv (t : List UInt8) (h : [35].isPrefixOf t = true) : Rf.fr (Rf.zc0 t) + (Rf.zc1 t).length ≤ t.length:=by
 have h1 : (Rf.zc1 t).length ≤ (t.drop (Rf.fr (Rf.zc0 t))).length:=by
  rw [← zd7 t,List.length_take];omega
 have h2 : Rf.fr (Rf.zc0 t) ≤ t.length:=by
  cases hx : Rf.zc0 t
  ·obtain ⟨r,rfl⟩:=List.isPrefixOf_iff_prefix.1 h
   simp [Rf.fr]
  ·unfold Rf.zc0 at hx
   rw [Bool.or_eq_true] at hx
   rcases hx with hx | hx
   ·obtain ⟨r,rfl⟩:=List.isPrefixOf_iff_prefix.1 hx
    simp [Rf.fr]
   ·obtain ⟨r,rfl⟩:=List.isPrefixOf_iff_prefix.1 hx
    simp [Rf.fr]
 rw [List.length_drop] at h1
 omega
theorem zlA (t : List UInt8) (w : World) (h : [35].isPrefixOf t = false) :
  Calls Tryz.prog 176 #[.string (str t)] w fun e w'=>e = .returned (.tuple #[.int .i32 (Rf.zfw t),.int .i64 (Rf.zcT t)]) ∧ w' = w:=by
 have h0:=Pre h
 rw [(Rf.zkw t h).1,(Rf.zkw t h).2]
 clear h
 go_enter Tryz.func176,Tryz.ntmps176
 go_wp2_with (go_at_call 127;refine (h0 _).mono ?_;rintro e w1 ⟨rfl,hw⟩;rw [hw];clear hw)
 go_ret2
 exact ⟨rfl,rfl⟩
theorem zlB (t : List UInt8) (w : World) (hz : t.length ≤ 1000000000) (hW : Win w) (h : [35].isPrefixOf t = true) (h1 : [35,120].isPrefixOf t = false) (h2 : [35,88].isPrefixOf t = false) :
  Calls Tryz.prog 176 #[.string (str t)] w fun e w'=>e = .returned (.tuple #[.int .i32 (Rf.zfw t),.int .i64 (Rf.zcT t)]) ∧ w' = w:=by
 have hb : Rf.zc0 t = false:=by unfold Rf.zc0;rw [h1,h2];rfl
 have hl:=zhv t h
 have ht:=zd7 t
 have hsz:=zad t
 have HZ : Hid (Rf.zcT t = if Rf.zkq t = true then 1 + (Rf.zc1 t).length + Rf.zqS (t.drop (1 + (Rf.zc1 t).length)) else 0):=by
  show _ = _
  unfold Rf.zcT
  rw [hb]
  rfl
 have HG : Hid (Rf.zfw t = if Rf.zkq t = true then Rf.zb1 (Rf.zmB (Rf.zc1 t)) else 0):=by
  show _ = _
  unfold Rf.zfw
  rw [hb]
  rfl
 have HV : Hid (Rf.zc1 t ≠ [] → 0 ≤ Rf.zmB (Rf.zc1 t) ∧ Rf.zmB (Rf.zc1 t) ≤ 4294967295):=by
  intro hd
  have:=Rf.zqT t hd
  rw [hb] at this
  exact this
 have HI : Hid (Rf.zkq t = !(Rf.zc1 t).isEmpty):=by
  show _ = _
  unfold Rf.zkq
  rw [h]
  rfl
 have hR : ∀ W,Calls Tryz.prog 192 #[.string (str (t.drop 1)),.func (.func 188) #[] #[]] W fun e w'=>e = .returned (.int .i64 (Rf.zc1 t).length) ∧ w' = W:=by
  intro W
  have:=zrP (str (t.drop 1)) W (by rw [zad,List.length_drop];omega)
  rw [zam] at this
  unfold Rf.zc1
  rw [hb]
  exact this
 rw [hb] at hl ht
 have ht' : (t.drop 1).take (Rf.zc1 t).length = Rf.zc1 t:=ht
 have hl' : 1 + (Rf.zc1 t).length ≤ t.length:=hl
 clear ht hl hb
 have q0:=Pre h
 have q1:=Pre h1
 have q2:=Pre h2
 clear h h1 h2
 have he1 : (str t).extract 1 t.length = str (t.drop 1):=zax t 1
 have he2 : (str t).extract 1 (1 + (Rf.zc1 t).length) = str (Rf.zc1 t):=by rw [zjC,ht']
 have he3 : (str t).extract (1 + (Rf.zc1 t).length) t.length = str (t.drop (1 + (Rf.zc1 t).length)):=zax t _
 have hr:=zjA (str (Rf.zc1 t))
 rw [zam,zad] at hr
 clear ht'
 generalize t.drop 1 = u at hR he1
 generalize Rf.zc1 t = D at *
 generalize hd : D.length = d at *
 by_cases hz0 : d = 0
 ·have hD : D = []:=List.eq_nil_of_length_eq_zero (by omega)
  rw [hD] at HI
  have HI' : Hid (Rf.zkq t = false):=HI.out
  subst hz0
  clear hr HV hd HI
  go_enter Tryz.func176,Tryz.ntmps176
  go_wp2_with (first
   | (go_at_call 127;refine (q0 _).mono ?_;rintro e w1 ⟨rfl,hw⟩;rw [hw];clear hw)
   | (go_at_call 127;refine (q1 _).mono ?_;rintro e w1 ⟨rfl,hw⟩;rw [hw];clear hw)
   | (go_at_call 127;refine (q2 _).mono ?_;rintro e w1 ⟨rfl,hw⟩;rw [hw];clear hw)
   | (go_at_call 192;refine (hR _).mono ?_;rintro e w1 ⟨rfl,hw⟩;rw [hw];clear hw))
  go_ret2
  rw [HG.out,HZ.out,HI'.out]
  exact ⟨rfl,rfl⟩
 ·have hD : D ≠ []:=by intro e;rw [e] at hd;simp at hd;omega
  have HI' : Hid (Rf.zkq t = true):=by
   show _ = _
   rw [HI.out]
   cases D with
   | nil=>exact absurd rfl hD
   | cons c r=>rfl
  have hv:=HV.out hD
  have hN:=fun W=>zc7 (Rf.zmB D) W hv.1 hv.2
  have HX : Hid (Rf.zfw t = Rf.zb1 (Rf.zmB D)):=by
   show _ = _
   rw [HG.out,HI'.out]
   rfl
  have HY : Hid (Rf.zcT t = 1 + d + Rf.zqS (t.drop (1 + d))):=by
   show _ = _
   rw [HZ.out,HI'.out]
   rfl
  clear HV HI HI' HG HZ hD hd
  generalize Rf.zmB D = v at *
  generalize Rf.zb1 v = sg at *
  generalize t.drop (1 + d) = u2 at *
  cases hs : [59].isPrefixOf u2
  ·have q3:=Pre hs
   have HS : Hid (Rf.zqS u2 = 0):=by show _ = _;unfold Rf.zqS;rw [hs];rfl
   clear hs
   go_enter Tryz.func176,Tryz.ntmps176
   go_wp2_with (first
    | (go_at_call 127;refine (q0 _).mono ?_;rintro e w1 ⟨rfl,hw⟩;rw [hw];clear hw)
    | (go_at_call 127;refine (q1 _).mono ?_;rintro e w1 ⟨rfl,hw⟩;rw [hw];clear hw)
    | (go_at_call 127;refine (q2 _).mono ?_;rintro e w1 ⟨rfl,hw⟩;rw [hw];clear hw)
    | (go_at_call 127;refine (q3 _).mono ?_;rintro e w1 ⟨rfl,hw⟩;rw [hw];clear hw)
    | (go_at_call 192;refine (hR _).mono ?_;rintro e w1 ⟨rfl,hw⟩;rw [hw];clear hw)
    | (go_at_call 189;refine (hr _ (by omega)).mono ?_;rintro e w1 ⟨rfl,hw⟩;rw [hw];clear hw)
    | (go_at_call 193;refine (hN _ hW).mono ?_;rintro e w1 ⟨rfl,hw⟩;rw [hw];clear hw))
   go_ret2
   rw [HX.out,HY.out,HS.out]
   exact ⟨by simp,rfl⟩
  ·have q3:=Pre hs
   have HS : Hid (Rf.zqS u2 = 1):=by show _ = _;unfold Rf.zqS;rw [hs];rfl
   clear hs
   go_enter Tryz.func176,Tryz.ntmps176
   go_wp2_with (first
    | (go_at_call 127;refine (q0 _).mono ?_;rintro e w1 ⟨rfl,hw⟩;rw [hw];clear hw)
    | (go_at_call 127;refine (q1 _).mono ?_;rintro e w1 ⟨rfl,hw⟩;rw [hw];clear hw)
    | (go_at_call 127;refine (q2 _).mono ?_;rintro e w1 ⟨rfl,hw⟩;rw [hw];clear hw)
    | (go_at_call 127;refine (q3 _).mono ?_;rintro e w1 ⟨rfl,hw⟩;rw [hw];clear hw)
    | (go_at_call 192;refine (hR _).mono ?_;rintro e w1 ⟨rfl,hw⟩;rw [hw];clear hw)
    | (go_at_call 189;refine (hr _ (by omega)).mono ?_;rintro e w1 ⟨rfl,hw⟩;rw [hw];clear hw)
    | (go_at_call 193;refine (hN _ hW).mono ?_;rintro e w1 ⟨rfl,hw⟩;rw [hw];clear hw))
   go_ret2
   rw [HX.out,HY.out,HS.out]
   exact ⟨by simp,rfl⟩
end Go.Proofs.YtiodaahncadodaaGreatDoor
