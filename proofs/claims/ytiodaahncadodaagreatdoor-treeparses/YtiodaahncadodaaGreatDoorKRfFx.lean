/- Texts laid as one. -/
import Derived.Test.YtiodaahncadodaaGreatDoorKRfEF
set_option maxRecDepth 100000
set_option maxHeartbeats 2000000
set_option linter.unusedVariables false
set_option linter.unusedSimpArgs false
namespace Go.Proofs.YtiodaahncadodaaGreatDoor
open Go.RowKit
theorem zlC (t : List UInt8) (w : World) (hz : t.length ≤ 1000000000) (hW : Win w) (h : [35].isPrefixOf t = true) (h1 : [35,120].isPrefixOf t = true) :
  Calls Tryz.prog 176 #[.string (str t)] w fun e w'=>e = .returned (.tuple #[.int .i32 (Rf.zfw t),.int .i64 (Rf.zcT t)]) ∧ w' = w:=by
 have hb : Rf.zc0 t = true:=by unfold Rf.zc0;rw [h1];rfl
 have hl:=zhv t h
 have ht:=zd7 t
 have hsz:=zad t
 have HZ : Hid (Rf.zcT t = if Rf.zkq t = true then 2 + (Rf.zc1 t).length + Rf.zqS (t.drop (2 + (Rf.zc1 t).length)) else 0):=by
  show _ = _
  unfold Rf.zcT
  rw [hb]
  rfl
 have HG : Hid (Rf.zfw t = if Rf.zkq t = true then Rf.zb1 (Rf.zmC (Rf.zc1 t)) else 0):=by
  show _ = _
  unfold Rf.zfw
  rw [hb]
  rfl
 have HV : Hid (Rf.zc1 t ≠ [] → 0 ≤ Rf.zmC (Rf.zc1 t) ∧ Rf.zmC (Rf.zc1 t) ≤ 4294967295):=by
  intro hd
  have:=Rf.zqT t hd
  rw [hb] at this
  exact this
 have HI : Hid (Rf.zkq t = !(Rf.zc1 t).isEmpty):=by
  show _ = _
  unfold Rf.zkq
  rw [h]
  rfl
 have hR : ∀ W,Calls Tryz.prog 192 #[.string (str (t.drop 2)),.func (.func 190) #[] #[]] W fun e w'=>e = .returned (.int .i64 (Rf.zc1 t).length) ∧ w' = W:=by
  intro W
  have:=zna (str (t.drop 2)) W (by rw [zad,List.length_drop];omega)
  rw [zam] at this
  unfold Rf.zc1
  rw [hb]
  exact this
 rw [hb] at hl ht
 have ht' : (t.drop 2).take (Rf.zc1 t).length = Rf.zc1 t:=ht
 have hl' : 2 + (Rf.zc1 t).length ≤ t.length:=hl
 clear ht hl hb
 have q0:=Pre h
 have q1:=Pre h1
 clear h h1
 have he1 : (str t).extract 2 t.length = str (t.drop 2):=zax t 2
 have he2 : (str t).extract 2 (2 + (Rf.zc1 t).length) = str (Rf.zc1 t):=by rw [zjC,ht']
 have he3 : (str t).extract (2 + (Rf.zc1 t).length) t.length = str (t.drop (2 + (Rf.zc1 t).length)):=zax t _
 have hr:=zc5 (str (Rf.zc1 t))
 rw [zam,zad] at hr
 clear ht'
 generalize t.drop 2 = u at hR he1
 generalize Rf.zc1 t = D at *
 generalize hd : D.length = d at *
 by_cases hz0 : d = 0
 ·have hD : D = []:=List.eq_nil_of_length_eq_zero (by omega)
  rw [hD] at HI
  have HI' : Hid (Rf.zkq t = false):=HI.out
  subst hz0
  clear hr HV hd HI
  go_enter Tryz.func176,Tryz.ntmps176
  go_wp2_with (first
   | (go_at_call 127;refine (q0 _).mono ?_;rintro e w1 ⟨rfl,hw⟩;rw [hw];clear hw)
   | (go_at_call 127;refine (q1 _).mono ?_;rintro e w1 ⟨rfl,hw⟩;rw [hw];clear hw)
   | (go_at_call 192;refine (hR _).mono ?_;rintro e w1 ⟨rfl,hw⟩;rw [hw];clear hw))
  go_ret2
  rw [HG.out,HZ.out,HI'.out]
  exact ⟨rfl,rfl⟩
 ·have hD : D ≠ []:=by intro e;rw [e] at hd;simp at hd;omega
  have HI' : Hid (Rf.zkq t = true):=by
   show _ = _
   rw [HI.out]
   cases D with
   | nil=>exact absurd rfl hD
   | cons c r=>rfl
  have hv:=HV.out hD
  have hN:=fun W=>zc7 (Rf.zmC D) W hv.1 hv.2
  have HX : Hid (Rf.zfw t = Rf.zb1 (Rf.zmC D)):=by
   show _ = _
   rw [HG.out,HI'.out]
   rfl
  have HY : Hid (Rf.zcT t = 2 + d + Rf.zqS (t.drop (2 + d))):=by
   show _ = _
   rw [HZ.out,HI'.out]
   rfl
  clear HV HI HI' HG HZ hD hd
  generalize Rf.zmC D = v at *
  generalize Rf.zb1 v = sg at *
  generalize t.drop (2 + d) = u2 at *
  cases hs : [59].isPrefixOf u2
  ·have q3:=Pre hs
   have HS : Hid (Rf.zqS u2 = 0):=by show _ = _;unfold Rf.zqS;rw [hs];rfl
   clear hs
   go_enter Tryz.func176,Tryz.ntmps176
   go_wp2_with (first
    | (go_at_call 127;refine (q0 _).mono ?_;rintro e w1 ⟨rfl,hw⟩;rw [hw];clear hw)
    | (go_at_call 127;refine (q1 _).mono ?_;rintro e w1 ⟨rfl,hw⟩;rw [hw];clear hw)
    | (go_at_call 127;refine (q3 _).mono ?_;rintro e w1 ⟨rfl,hw⟩;rw [hw];clear hw)
    | (go_at_call 192;refine (hR _).mono ?_;rintro e w1 ⟨rfl,hw⟩;rw [hw];clear hw)
    | (go_at_call 191;refine (hr _ (by omega)).mono ?_;rintro e w1 ⟨rfl,hw⟩;rw [hw];clear hw)
    | (go_at_call 193;refine (hN _ hW).mono ?_;rintro e w1 ⟨rfl,hw⟩;rw [hw];clear hw))
   go_ret2
   rw [HX.out,HY.out,HS.out]
   exact ⟨by simp,rfl⟩
  ·have q3:=Pre hs
   have HS : Hid (Rf.zqS u2 = 1):=by show _ = _;unfold Rf.zqS;rw [hs];rfl
   clear hs
   go_enter Tryz.func176,Tryz.ntmps176
   go_wp2_with (first
    | (go_at_call 127;refine (q0 _).mono ?_;rintro e w1 ⟨rfl,hw⟩;rw [hw];clear hw)
    | (go_at_call 127;refine (q1 _).mono ?_;rintro e w1 ⟨rfl,hw⟩;rw [hw];clear hw)
    | (go_at_call 127;refine (q3 _).mono ?_;rintro e w1 ⟨rfl,hw⟩;rw [hw];clear hw)
    | (go_at_call 192;refine (hR _).mono ?_;rintro e w1 ⟨rfl,hw⟩;rw [hw];clear hw)
    | (go_at_call 191;refine (hr _ (by omega)).mono ?_;rintro e w1 ⟨rfl,hw⟩;rw [hw];clear hw)
    | (go_at_call 193;refine (hN _ hW).mono ?_;rintro e w1 ⟨rfl,hw⟩;rw [hw];clear hw))
   go_ret2
   rw [HX.out,HY.out,HS.out]
   exact ⟨by simp,rfl⟩
theorem zlD (t : List UInt8) (w : World) (hz : t.length ≤ 1000000000) (hW : Win w) (h : [35].isPrefixOf t = true) (h1 : [35,120].isPrefixOf t = false) (h2 : [35,88].isPrefixOf t = true) :
  Calls Tryz.prog 176 #[.string (str t)] w fun e w'=>e = .returned (.tuple #[.int .i32 (Rf.zfw t),.int .i64 (Rf.zcT t)]) ∧ w' = w:=by
 have hb : Rf.zc0 t = true:=by unfold Rf.zc0;rw [h1,h2];rfl
 have hl:=zhv t h
 have ht:=zd7 t
 have hsz:=zad t
 have HZ : Hid (Rf.zcT t = if Rf.zkq t = true then 2 + (Rf.zc1 t).length + Rf.zqS (t.drop (2 + (Rf.zc1 t).length)) else 0):=by
  show _ = _
  unfold Rf.zcT
  rw [hb]
  rfl
 have HG : Hid (Rf.zfw t = if Rf.zkq t = true then Rf.zb1 (Rf.zmC (Rf.zc1 t)) else 0):=by
  show _ = _
  unfold Rf.zfw
  rw [hb]
  rfl
 have HV : Hid (Rf.zc1 t ≠ [] → 0 ≤ Rf.zmC (Rf.zc1 t) ∧ Rf.zmC (Rf.zc1 t) ≤ 4294967295):=by
  intro hd
  have:=Rf.zqT t hd
  rw [hb] at this
  exact this
 have HI : Hid (Rf.zkq t = !(Rf.zc1 t).isEmpty):=by
  show _ = _
  unfold Rf.zkq
  rw [h]
  rfl
 have hR : ∀ W,Calls Tryz.prog 192 #[.string (str (t.drop 2)),.func (.func 190) #[] #[]] W fun e w'=>e = .returned (.int .i64 (Rf.zc1 t).length) ∧ w' = W:=by
  intro W
  have:=zna (str (t.drop 2)) W (by rw [zad,List.length_drop];omega)
  rw [zam] at this
  unfold Rf.zc1
  rw [hb]
  exact this
 rw [hb] at hl ht
 have ht' : (t.drop 2).take (Rf.zc1 t).length = Rf.zc1 t:=ht
 have hl' : 2 + (Rf.zc1 t).length ≤ t.length:=hl
 clear ht hl hb
 have q0:=Pre h
 have q1:=Pre h1
 have q2:=Pre h2
 clear h h1 h2
 have he1 : (str t).extract 2 t.length = str (t.drop 2):=zax t 2
 have he2 : (str t).extract 2 (2 + (Rf.zc1 t).length) = str (Rf.zc1 t):=by rw [zjC,ht']
 have he3 : (str t).extract (2 + (Rf.zc1 t).length) t.length = str (t.drop (2 + (Rf.zc1 t).length)):=zax t _
 have hr:=zc5 (str (Rf.zc1 t))
 rw [zam,zad] at hr
 clear ht'
 generalize t.drop 2 = u at hR he1
 generalize Rf.zc1 t = D at *
 generalize hd : D.length = d at *
 by_cases hz0 : d = 0
 ·have hD : D = []:=List.eq_nil_of_length_eq_zero (by omega)
  rw [hD] at HI
  have HI' : Hid (Rf.zkq t = false):=HI.out
  subst hz0
  clear hr HV hd HI
  go_enter Tryz.func176,Tryz.ntmps176
  go_wp2_with (first
   | (go_at_call 127;refine (q0 _).mono ?_;rintro e w1 ⟨rfl,hw⟩;rw [hw];clear hw)
   | (go_at_call 127;refine (q1 _).mono ?_;rintro e w1 ⟨rfl,hw⟩;rw [hw];clear hw)
   | (go_at_call 127;refine (q2 _).mono ?_;rintro e w1 ⟨rfl,hw⟩;rw [hw];clear hw)
   | (go_at_call 192;refine (hR _).mono ?_;rintro e w1 ⟨rfl,hw⟩;rw [hw];clear hw))
  go_ret2
  rw [HG.out,HZ.out,HI'.out]
  exact ⟨rfl,rfl⟩
 ·have hD : D ≠ []:=by intro e;rw [e] at hd;simp at hd;omega
  have HI' : Hid (Rf.zkq t = true):=by
   show _ = _
   rw [HI.out]
   cases D with
   | nil=>exact absurd rfl hD
   | cons c r=>rfl
  have hv:=HV.out hD
  have hN:=fun W=>zc7 (Rf.zmC D) W hv.1 hv.2
  have HX : Hid (Rf.zfw t = Rf.zb1 (Rf.zmC D)):=by
   show _ = _
   rw [HG.out,HI'.out]
   rfl
  have HY : Hid (Rf.zcT t = 2 + d + Rf.zqS (t.drop (2 + d))):=by
   show _ = _
   rw [HZ.out,HI'.out]
   rfl
  clear HV HI HI' HG HZ hD hd
  generalize Rf.zmC D = v at *
  generalize Rf.zb1 v = sg at *
  generalize t.drop (2 + d) = u2 at *
  cases hs : [59].isPrefixOf u2
  ·have q3:=Pre hs
   have HS : Hid (Rf.zqS u2 = 0):=by show _ = _;unfold Rf.zqS;rw [hs];rfl
   clear hs
   go_enter Tryz.func176,Tryz.ntmps176
   go_wp2_with (first
    | (go_at_call 127;refine (q0 _).mono ?_;rintro e w1 ⟨rfl,hw⟩;rw [hw];clear hw)
    | (go_at_call 127;refine (q1 _).mono ?_;rintro e w1 ⟨rfl,hw⟩;rw [hw];clear hw)
    | (go_at_call 127;refine (q2 _).mono ?_;rintro e w1 ⟨rfl,hw⟩;rw [hw];clear hw)
    | (go_at_call 127;refine (q3 _).mono ?_;rintro e w1 ⟨rfl,hw⟩;rw [hw];clear hw)
    | (go_at_call 192;refine (hR _).mono ?_;rintro e w1 ⟨rfl,hw⟩;rw [hw];clear hw)
    | (go_at_call 191;refine (hr _ (by omega)).mono ?_;rintro e w1 ⟨rfl,hw⟩;rw [hw];clear hw)
    | (go_at_call 193;refine (hN _ hW).mono ?_;rintro e w1 ⟨rfl,hw⟩;rw [hw];clear hw))
   go_ret2
   rw [HX.out,HY.out,HS.out]
   exact ⟨by simp,rfl⟩
  ·have q3:=Pre hs
   have HS : Hid (Rf.zqS u2 = 1):=by show _ = _;unfold Rf.zqS;rw [hs];rfl
   clear hs
   go_enter Tryz.func176,Tryz.ntmps176
   go_wp2_with (first
    | (go_at_call 127;refine (q0 _).mono ?_;rintro e w1 ⟨rfl,hw⟩;rw [hw];clear hw)
    | (go_at_call 127;refine (q1 _).mono ?_;rintro e w1 ⟨rfl,hw⟩;rw [hw];clear hw)
    | (go_at_call 127;refine (q2 _).mono ?_;rintro e w1 ⟨rfl,hw⟩;rw [hw];clear hw)
    | (go_at_call 127;refine (q3 _).mono ?_;rintro e w1 ⟨rfl,hw⟩;rw [hw];clear hw)
    | (go_at_call 192;refine (hR _).mono ?_;rintro e w1 ⟨rfl,hw⟩;rw [hw];clear hw)
    | (go_at_call 191;refine (hr _ (by omega)).mono ?_;rintro e w1 ⟨rfl,hw⟩;rw [hw];clear hw)
    | (go_at_call 193;refine (hN _ hW).mono ?_;rintro e w1 ⟨rfl,hw⟩;rw [hw];clear hw))
   go_ret2
   rw [HX.out,HY.out,HS.out]
   exact ⟨by simp,rfl⟩
end Go.Proofs.YtiodaahncadodaaGreatDoor
