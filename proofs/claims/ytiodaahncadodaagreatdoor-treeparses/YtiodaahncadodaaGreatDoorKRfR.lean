/- Texts laid as one. -/
import Derived.Test.YtiodaahncadodaaGreatDoorKRfEF
import Derived.Test.YtiodaahncadodaaGreatDoorKRfGK
set_option maxRecDepth 100000
set_option maxHeartbeats 4000000
set_option linter.unusedVariables false
set_option linter.unusedSimpArgs false
namespace Go.Proofs.YtiodaahncadodaaGreatDoor
open Go.RowKit
theorem zcj (l p : List UInt8) (w : World) :
  Calls Tryz.prog 110 #[.string (str l),.string (str p)] w fun e w'=>e = .returned (.bool (p.isPrefixOf l)) ∧ w' = w:=by
 have h1:=zad l
 have h2:=zad p
 have he : (str l).extract 0 p.length = str (l.take p.length):=zbx l _
 by_cases h : p.length ≤ l.length
 ·have hI : (p.length : Int) ≤ (l.length : Int):=by omega
  by_cases hq : l.take p.length = p
  ·have q:=zbQ hq
   have HP : Hid (p.isPrefixOf l = true):=List.isPrefixOf_iff_prefix.2 (by rw [← hq];exact List.take_prefix _ _)
   clear hq
   generalize l.take p.length = u at *
   go_enter Tryz.func110,Tryz.ntmps110
   go_wp2
   go_ret
   exact ⟨zac (by rw [HP.out]),rfl⟩
  ·have q:=zbR hq
   have HP : Hid (p.isPrefixOf l = false):=by
    show _ = _
    rw [Bool.eq_false_iff]
    intro e
    obtain ⟨r,rfl⟩:=List.isPrefixOf_iff_prefix.1 e
    exact hq List.take_left
   clear hq
   generalize l.take p.length = u at *
   go_enter Tryz.func110,Tryz.ntmps110
   go_wp2
   go_ret
   exact ⟨zac (by rw [HP.out]),rfl⟩
 ·have hI : ¬ (p.length : Int) ≤ (l.length : Int):=by omega
  have HP : Hid (p.isPrefixOf l = false):=by
   show _ = _
   rw [Bool.eq_false_iff]
   intro e
   have:=(List.isPrefixOf_iff_prefix.1 e).length_le
   omega
  clear he
  go_enter Tryz.func110,Tryz.ntmps110
  go_wp2
  go_ret
  exact ⟨zac (by rw [HP.out]),rfl⟩
def zg7 (T : Rf.Tab) : List Value:=T.flatMap fun p=>[.string (str p.1),.int .i32 p.2]
def zcQ (w : World) (b : Nat) (T : Rf.Tab) : Prop:=∀ (k : Nat) p,T[k]? = some p → w.cell? ⟨b,2 * k,none⟩ = some (.string (str p.1)) ∧ w.cell? ⟨b,2 * k + 1,none⟩ = some (.int .i32 p.2)
theorem zcQ.below {w w' : World} {b : Nat} {T : Rf.Tab} (h : zcQ w b T) (hb : Below w.heap.size w w') : zcQ w' b T:=fun k p hk=>⟨(hb.cell (p:=⟨b,2 * k,none⟩) (zaK (h k p hk).1)).trans (h k p hk).1,(hb.cell (p:=⟨b,2 * k + 1,none⟩) (zaK (h k p hk).2)).trans (h k p hk).2⟩
theorem zi5 : ∀ (T : Rf.Tab) (k : Nat) (p : List UInt8 × Int),T[k]? = some p → (zg7 T)[2 * k]? = some (.string (str p.1)) ∧ (zg7 T)[2 * k + 1]? = some (.int .i32 p.2)
 | [],k,p,h=>by simp at h
 | q :: T,0,p,h=>by
  simp at h
  subst h
  exact ⟨rfl,rfl⟩
 | q :: T,k + 1,p,h=>by
  have:=zi5 T k p (by simpa using h)
  have e : zg7 (q :: T) = .string (str q.1) :: .int .i32 q.2 :: zg7 T:=rfl
  rw [e,show 2 * (k + 1) = 2 * k + 1 + 1 from by omega]
  exact this
theorem zi6 (w : World) (T : Rf.Tab) (t : Nat) : zcQ (w.alloc (.cells (zg7 T).toArray t)) w.heap.size T:=by
 intro k p hk
 have h:=zi5 T k p hk
 refine ⟨?_,?_⟩
 ·rw [Lib.cell_of_heap (zaf w _)]
  simpa using h.1
 ·rw [Lib.cell_of_heap (zaf w _)]
  simpa using h.2
theorem zkb : (zg7 Rf.zaH).toArray = #[.string ⟨#[97,109,112]⟩,.int .i32 38,.string ⟨#[108,116]⟩,.int .i32 60,.string ⟨#[103,116]⟩,.int .i32 62,.string ⟨#[113,117,111,116]⟩,.int .i32 34,.string ⟨#[97,112,111,115]⟩,.int .i32 39,.string ⟨#[110,98,115,112]⟩,.int .i32 160,.string ⟨#[99,111,112,121]⟩,.int .i32 169,.string ⟨#[114,101,103]⟩,.int .i32 174,.string ⟨#[99,101,110,116]⟩,.int .i32 162,.string ⟨#[112,111,117,110,100]⟩,.int .i32 163,.string ⟨#[121,101,110]⟩,.int .i32 165,.string ⟨#[115,101,99,116]⟩,.int .i32 167,.string ⟨#[100,101,103]⟩,.int .i32 176,.string ⟨#[112,108,117,115,109,110]⟩,.int .i32 177,.string ⟨#[112,97,114,97]⟩,.int .i32 182,.string ⟨#[109,105,100,100,111,116]⟩,.int .i32 183,.string ⟨#[108,97,113,117,111]⟩,.int .i32 171,.string ⟨#[114,97,113,117,111]⟩,.int .i32 187,.string ⟨#[102,114,97,99,49,50]⟩,.int .i32 189,.string ⟨#[116,105,109,101,115]⟩,.int .i32 215,.string ⟨#[100,105,118,105,100,101]⟩,.int .i32 247,.string ⟨#[97,103,114,97,118,101]⟩,.int .i32 224,.string ⟨#[97,97,99,117,116,101]⟩,.int .i32 225,.string ⟨#[97,99,105,114,99]⟩,.int .i32 226,.string ⟨#[97,117,109,108]⟩,.int .i32 228,.string ⟨#[97,114,105,110,103]⟩,.int .i32 229,.string ⟨#[97,101,108,105,103]⟩,.int .i32 230,.string ⟨#[99,99,101,100,105,108]⟩,.int .i32 231,.string ⟨#[101,103,114,97,118,101]⟩,.int .i32 232,.string ⟨#[101,97,99,117,116,101]⟩,.int .i32 233,.string ⟨#[101,99,105,114,99]⟩,.int .i32 234,.string ⟨#[105,97,99,117,116,101]⟩,.int .i32 237,.string ⟨#[110,116,105,108,100,101]⟩,.int .i32 241,.string ⟨#[111,97,99,117,116,101]⟩,.int .i32 243,.string ⟨#[111,117,109,108]⟩,.int .i32 246,.string ⟨#[111,115,108,97,115,104]⟩,.int .i32 248,.string ⟨#[117,97,99,117,116,101]⟩,.int .i32 250,.string ⟨#[117,117,109,108]⟩,.int .i32 252,.string ⟨#[115,122,108,105,103]⟩,.int .i32 223,.string ⟨#[65,117,109,108]⟩,.int .i32 196,.string ⟨#[79,117,109,108]⟩,.int .i32 214,.string ⟨#[85,117,109,108]⟩,.int .i32 220,.string ⟨#[69,97,99,117,116,101]⟩,.int .i32 201,.string ⟨#[110,100,97,115,104]⟩,.int .i32 8211,.string ⟨#[109,100,97,115,104]⟩,.int .i32 8212,.string ⟨#[108,115,113,117,111]⟩,.int .i32 8216,.string ⟨#[114,115,113,117,111]⟩,.int .i32 8217,.string ⟨#[108,100,113,117,111]⟩,.int .i32 8220,.string ⟨#[114,100,113,117,111]⟩,.int .i32 8221,.string ⟨#[98,117,108,108]⟩,.int .i32 8226,.string ⟨#[104,101,108,108,105,112]⟩,.int .i32 8230,.string ⟨#[101,117,114,111]⟩,.int .i32 8364,.string ⟨#[116,114,97,100,101]⟩,.int .i32 8482,.string ⟨#[108,97,114,114]⟩,.int .i32 8592,.string ⟨#[114,97,114,114]⟩,.int .i32 8594,.string ⟨#[104,101,97,114,116,115]⟩,.int .i32 9829]:=by kernel_rfl
theorem zi7 (w : World) :
  Calls Tryz.prog 112 #[] w fun e w'=>∃ b,e = .returned (.slice (some ⟨b,0,none⟩) 56 56) ∧ zcQ w' b Rf.zaH ∧ Below w.heap.size w w':=by
 have h:=zi6 w Rf.zaH 144
 rw [zkb] at h
 have H : Hid (zcQ _ w.heap.size Rf.zaH):=h
 clear h
 go_enter Tryz.func112,Tryz.ntmps112
 go_wp2
 go_ret
 exact ⟨w.heap.size,rfl,H.out,(Below.refl _ w).alloc (Nat.le_refl _) _⟩
theorem zoH (T : Rf.Tab) (k : Nat) (p : List UInt8 × Int) (s : List UInt8) (h : T[k]? = some p) (hn : ¬ s = p.1) : Rf.zdL (T.drop (k + 1)) s = Rf.zdL (T.drop k) s:=by
 obtain ⟨hlt,rfl⟩:=List.getElem?_eq_some_iff.1 h
 rw [List.drop_eq_getElem_cons hlt,Rf.zdL,if_neg hn]
theorem zoI (T : Rf.Tab) (k : Nat) (p : List UInt8 × Int) (s : List UInt8) (h : T[k]? = some p) (hn : s = p.1) : Rf.zdL (T.drop k) s = p.2:=by
 obtain ⟨hlt,rfl⟩:=List.getElem?_eq_some_iff.1 h
 rw [List.drop_eq_getElem_cons hlt,Rf.zdL,if_pos hn]
theorem zk7 (k : Nat) (h : k < 56) : ∃ p,Rf.zaH[k]? = some p ∧ p.2 ≠ 0 ∧ p.1.length ≤ 20:=by
 have hl : Rf.zaH.length = 56:=by decide +kernel
 have hk : k < Rf.zaH.length:=by omega
 have hb : ∀ p ∈ Rf.zaH,p.2 ≠ 0 ∧ p.1.length ≤ 20:=by decide +kernel
 exact ⟨Rf.zaH[k],List.getElem?_eq_getElem hk,hb _ (List.getElem_mem hk)⟩
theorem zi8 (k : Nat) (h : 56 ≤ k) : Rf.zaH.drop k = []:=by
 have hl : Rf.zaH.length = 56:=by decide +kernel
 exact List.drop_eq_nil_of_le (by omega)
theorem zoJ (s : List UInt8) (w : World) :
  Calls Tryz.prog 114 #[.string (str s)] w fun e w'=>e = .returned (.tuple #[.int .i32 (Rf.sgn s),.bool (Rf.sgn s != 0)]) ∧ Below w.heap.size w w':=by
 go_enter Tryz.func114,Tryz.ntmps114
 go_wp2_with (go_at_call 112;refine (zi7 _).mono ?_;rintro e w1 ⟨b,rfl,ht,hb1⟩)
 have HT : Hid (zcQ w1 b Rf.zaH):=ht
 clear ht
 go_loop [5] (fun i=>∃ k : Nat,k ≤ 56 ∧ i = .int .i64 k ∧ Hid (Rf.zdL (Rf.zaH.drop k) s = Rf.sgn s)) (fun i=>56 - (intOf i).toNat)
 case atStart=>exact ⟨0,by omega,rfl,rfl⟩
 case round =>
  obtain ⟨k,hk,rfl,HE⟩:=hrel
  by_cases hlt : k < 56
  ·obtain ⟨p,hp,hnz,_⟩:=zk7 k hlt
   obtain ⟨hc0,hc1⟩:=HT.out k p hp
   rw [Nat.mul_comm 2 k] at hc0 hc1
   by_cases hs : s = p.1
   ·have HN : Hid (Rf.sgn s = p.2):=HE.out.symm.trans (zoI _ k p s hp hs)
    have q:=zbQ hs.symm
    have HZ : Hid (p.2 ≠ 0):=hnz
    clear hs hnz hp HE
    go_wp2
    go_ret2
    refine ⟨zbo (by rw [HN.out];rfl) (by rw [HN.out,bne_iff_ne.2 HZ.out];rfl),hb1⟩
   ·have HN : Hid (Rf.zdL (Rf.zaH.drop (k + 1)) s = Rf.sgn s):=(zoH _ k p s hp hs).trans HE.out
    have q:=zbR (fun e : p.1 = s=>hs e.symm)
    clear hs hnz hp HE
    go_wp2
    go_round
    case rel=>exact ⟨k + 1,by omega,by go_num,HN⟩
    case measure=>simp [intOf];omega
  ·have HN : Hid (Rf.sgn s = 0):=by
    show _ = _
    rw [← HE.out,zi8 k (by omega)]
    rfl
   go_wp2
   go_ret2
   exact ⟨zbo (by rw [HN.out];rfl) (by rw [HN.out];rfl),hb1⟩
theorem zoK (w : World) (t : Nat) (vs : Array Value) (h : vs = (Rf.zmy.map fun z=>Value.int .i32 z).toArray) (k : Nat) (hk : k < 32) : (w.alloc (.cells vs t)).cell? ⟨w.heap.size,k,none⟩ = some (.int .i32 (Rf.win k)):=by
 have hl : Rf.zmy.length = 32:=by decide +kernel
 subst h
 rw [Lib.cell_of_heap (zaf w _)]
 have e : Rf.zmy[k]? = some (Rf.win k):=by
  unfold Rf.win
  rw [List.getD_eq_getElem?_getD,List.getElem?_eq_getElem (by omega)]
  rfl
 simp [e]
theorem zkc (w : World) :
  Calls Tryz.prog 165 #[] w fun e w'=>∃ b,e = .returned (.slice (some ⟨b,0,none⟩) 32 32) ∧ (∀ k,k < 32 → w'.cell? ⟨b,k,none⟩ = some (.int .i32 (Rf.win k))) ∧ Below w.heap.size w w':=by
 go_enter Tryz.func165,Tryz.ntmps165
 go_wp2
 go_ret
 exact ⟨w.heap.size,rfl,fun k hk=>zoK w _ _ (by kernel_rfl) k hk,(Below.refl _ w).alloc (Nat.le_refl _) _⟩
theorem zbw (n : Int) (w : World) (h0 : 0 ≤ n) (h1 : n ≤ 4294967295) :
  Calls Tryz.prog 139 #[.int .u32 n] w fun e w'=>e = .returned (.int .i32 (Rf.zb1 n)) ∧ Below w.heap.size w w':=by
 rcases zgL n h0 with ⟨hv,h⟩ | ⟨hv,h⟩ | ⟨k,rfl,hk⟩
 ·rw [hv]
  clear hv
  rcases h with rfl | ⟨ha,hb⟩ | h
  all_goals
   go_enter Tryz.func139,Tryz.ntmps139
   go_wp2
   go_ret
   exact ⟨rfl,Below.refl _ _⟩
 ·have HV : Hid (Rf.zb1 n = n):=hv
  clear hv
  have hm : ¬ 1114111 < n:=by omega
  have hm2 : decide (1114111 < n) = false:=decide_eq_false hm
  have hm3 : (n == 0) = false:=beq_eq_false_iff_ne.2 (by omega)
  rcases h with ⟨ha,hb⟩ | ⟨ha,hb⟩ | ⟨ha,hb⟩
  all_goals
   go_enter Tryz.func139,Tryz.ntmps139
   go_wp2
   go_ret
   exact ⟨zaj (by rw [HV.out]),Below.refl _ _⟩
 ·have hn1 : (128 : Int) ≤ (k : Int) + 128:=by omega
  have hn2 : (k : Int) + 128 ≤ 159:=by omega
  have hW : ∀ W,Calls Tryz.prog 165 #[] W fun e w'=>∃ b,e = .returned (.slice (some ⟨b,0,none⟩) 32 32) ∧ w'.cell? ⟨b,((k : Int) + 128 - 128).toNat,none⟩ = some (.int .i32 (Rf.win k)) ∧ Below W.heap.size W w':=by
   intro W
   refine (zkc W).mono ?_
   rintro e w' ⟨b,rfl,hc,hb⟩
   refine ⟨b,rfl,?_,hb⟩
   rw [show ((k : Int) + 128 - 128).toNat = k from by omega]
   exact hc k hk
  by_cases hz : Rf.win k = 0
  ·rw [hz] at hW
   rw [zkJ hk hz]
   clear hz
   generalize (k : Int) + 128 = n at *
   have hm : ¬ 1114111 < n:=by omega
   have hm2 : decide (1114111 < n) = false:=decide_eq_false hm
   have hm3 : (n == 0) = false:=beq_eq_false_iff_ne.2 (by omega)
   go_enter Tryz.func139,Tryz.ntmps139
   go_wp2_with (go_at_call 165;refine (hW _).mono ?_;rintro e w1 ⟨b,rfl,hc,hb1⟩)
   go_ret
   exact ⟨zaj (by first | rfl | omega),hb1⟩
  ·rw [zkI hk hz]
   have hz2 : (Rf.win k == 0) = false:=beq_eq_false_iff_ne.2 hz
   generalize Rf.win k = x at hW hz hz2
   generalize (k : Int) + 128 = n at *
   have hm : ¬ 1114111 < n:=by omega
   have hm2 : decide (1114111 < n) = false:=decide_eq_false hm
   have hm3 : (n == 0) = false:=beq_eq_false_iff_ne.2 (by omega)
   go_enter Tryz.func139,Tryz.ntmps139
   go_wp2_with (go_at_call 165;refine (hW _).mono ?_;rintro e w1 ⟨b,rfl,hc,hb1⟩)
   go_ret
   exact ⟨zaj (by first | rfl | omega),hb1⟩
end Go.Proofs.YtiodaahncadodaaGreatDoor
namespace Rf
open Asc
theorem zgd (base : Int) : ∀ (l m : List UInt8) (n : Int),za5 base n (l ++ m) = za5 base (za5 base n l) m
 | [],m,n=>rfl
 | c :: l,m,n=>by rw [List.cons_append,za5,za5,zgd base l m]
theorem zrf (base : Int) (D : List UInt8) (k : Nat) (h : k < D.length) : za5 base 0 (D.take (k + 1)) = min (za5 base 0 (D.take k) * base + zjm (bt D[k])) 4294967295:=by
 rw [List.take_succ_eq_append_getElem h,zgd]
 rfl
end Rf
namespace Go.Proofs.YtiodaahncadodaaGreatDoor
open Go.RowKit
theorem zbT (c : UInt8) (w : World) :
  Calls Tryz.prog 138 #[.int .u8 c.toNat] w fun e w'=>e = .returned (.int .u32 (zes (c.toNat : Int))) ∧ w' = w:=by
 go_enter Tryz.func138,Tryz.ntmps138
 go_wp2_with (go_at_call 164;refine (zjp c _).mono ?_;rintro e w1 ⟨rfl,hw⟩;rw [hw];clear hw)
 go_ret
 exact ⟨rfl,rfl⟩
theorem zhP (b : Bool) (c : UInt8) (h : Rf.dOk b c = true) : zes (c.toNat : Int) = Asc.zjm (Asc.bt c) ∧ 0 ≤ Asc.zjm (Asc.bt c) ∧ Asc.zjm (Asc.bt c) < Rf.zia b:=by
 have hb:=Asc.zhh (Asc.bt c)
 cases b
 ·have h' : 48 ≤ Asc.bt c ∧ Asc.bt c ≤ 57:=by
   have h2 : Rf.zmA c = true:=h
   simpa [Rf.zmA,Asc.zhj] using h2
  have ho : Asc.zfp (Asc.bt c) = true:=by unfold Asc.zfp;simp [h']
  refine ⟨zjo _ ho,hb.1,?_⟩
  have:=(Rf.zpf c h)
  show Asc.zjm (Asc.bt c) < 10
  omega
 ·exact ⟨zjo _ h,hb.1,by show Asc.zjm (Asc.bt c) < 16;omega⟩
theorem zkd (b : Bool) (c : UInt8) (h : Rf.dOk b c = false) : Rf.zia b ≤ zes (c.toNat : Int) ∧ zes (c.toNat : Int) ≤ 16:=by
 cases hx : Asc.zfp (Asc.bt c)
 ·have e : zes (c.toNat : Int) = 16:=nib_no _ hx
  rw [e]
  cases b
  ·exact ⟨by show (10 : Int) ≤ 16;omega,by omega⟩
  ·exact ⟨by show (16 : Int) ≤ 16;omega,by omega⟩
 ·cases b
  ·have e : zes (c.toNat : Int) = Asc.zjm (Asc.bt c):=zjo _ hx
   rw [e]
   have hb:=Asc.zhh (Asc.bt c)
   have h' : ¬ (48 ≤ Asc.bt c ∧ Asc.bt c ≤ 57):=by
    have h2 : Rf.zmA c = false:=h
    simpa [Rf.zmA,Asc.zhj] using h2
   refine ⟨?_,by omega⟩
   show (10 : Int) ≤ _
   unfold Asc.zjm
   rw [if_neg h']
   unfold Asc.zfp at hx
   simp only [Bool.or_eq_true,decide_eq_true_eq] at hx
   split
   ·omega
   ·split
    ·omega
    ·omega
  ·have h2 : Rf.hexB c = false:=h
   unfold Rf.hexB at h2
   rw [h2] at hx
   cases hx
theorem zdq {c : UInt8} {k : Nat} (hk : k < 256) (h : c ≠ UInt8.ofNat k) : ¬ (c.toNat : Int) = (k : Int):=by
 intro e
 apply h
 apply UInt8.toNat_inj.1
 have : (UInt8.ofNat k).toNat = k:=by rw [UInt8.toNat_ofNat'];omega
 omega
theorem zoL (pre D rest : List UInt8) (i : Nat) (h1 : pre.length ≤ i) (h2 : i < pre.length + D.length) (h : i < (pre ++ (D ++ rest)).length) : (pre ++ (D ++ rest))[i] = D[i - pre.length]:=by
 rw [List.getElem_append_right h1,List.getElem_append_left]
theorem zk8 (pre D : List UInt8) (c : UInt8) (q : List UInt8) (h : pre.length + D.length < (pre ++ (D ++ c :: q)).length) : (pre ++ (D ++ c :: q))[pre.length + D.length] = c:=by
 rw [List.getElem_append_right (by omega),List.getElem_append_right (by omega)]
 simp
def zcW (b : Bool) (f1 : Nat) (D rest : List UInt8) : Int × Nat × Bool:=if D = [] then (0,0,false) else (Rf.zb1 (Rf.za5 (Rf.zia b) 0 D),f1 + D.length + Rf.zqS rest,true)
theorem zoM (s pre D rest : List UInt8) (hs : s = pre ++ (D ++ rest)) (hpl : pre.length = 2) (hD : D.all (Rf.dOk false) = true) (hr : ∀ c ∈ rest.head?,Rf.dOk false c = false) (hz : s.length ≤ 1000000000) (w : World) (h2 : 2 < (str s).size) (q1 : ¬ ((str s)[2].toNat : Int) = 120) (q2 : ¬ ((str s)[2].toNat : Int) = 88) :
  Calls Tryz.prog 111 #[.string (str s)] w fun e w'=>e = .returned (nxV (zcW false 2 D rest)) ∧ Below w.heap.size w w':=by
 have hsz:=zad s
 have hsl : s.length = 2 + D.length + rest.length:=by rw [hs];simp only [List.length_append];omega
 have h2i : (2 : Int) < (s.length : Int):=by omega
 have HS : Hid (s = pre ++ (D ++ rest)):=hs
 have HR0 : Hid (∀ c ∈ rest.head?,Rf.dOk false c = false):=hr
 have HD0 : Hid (D.all (Rf.dOk false) = true):=hD
 have HSL : Hid (s.length = 2 + D.length + rest.length):=hsl
 clear hs hr hD hsl
 have r1 : (((str s)[2].toNat : Int) == 120) = false:=beq_eq_false_iff_ne.2 q1
 have r2 : (((str s)[2].toNat : Int) == 88) = false:=beq_eq_false_iff_ne.2 q2
 go_enter Tryz.func111,Tryz.ntmps111
 go_wp2
 go_loop [6,7] (fun i n=>∃ (k : Nat) (v : Int),2 ≤ k ∧ k ≤ 2 + D.length ∧ i = .int .i64 k ∧ n = .int .u64 v ∧ 0 ≤ v ∧ v ≤ 4294967295 ∧ Hid (v = Rf.za5 10 0 (D.take (k - 2)))) (fun i _=>2 + D.length - (intOf i).toNat)
 case atStart=>exact ⟨2,0,by omega,by omega,rfl,rfl,by omega,by omega,by show _ = _;simp [Rf.za5]⟩
 case round =>
  obtain ⟨k,v,hk0,hk1,rfl,rfl,hv0,hv1,HV⟩:=hrel
  by_cases hlt : k < 2 + D.length
  ·have hks : k < (str s).size:=by have:=HSL.out;omega
   have hki : (k : Int) < (s.length : Int):=by omega
   have hkd : k - 2 < D.length:=by omega
   have he : (str s)[k] = D[k - 2]:=by
    show s[k]'(by omega) = _
    have:=zoL pre D rest k (by omega) (by omega) (by rw [← HS.out];omega)
    simp only [hpl] at this
    simp only [HS.out]
    exact this
   have hok : Rf.dOk false (str s)[k] = true:=by
    rw [he]
    exact List.all_eq_true.1 HD0.out _ (List.getElem_mem hkd)
   have hn:=zhP false (str s)[k] hok
   have HN : Hid (min (v * 10 + Asc.zjm (Asc.bt (str s)[k])) 4294967295 = Rf.za5 10 0 (D.take (k + 1 - 2))):=by
    show _ = _
    rw [show k + 1 - 2 = k - 2 + 1 from by omega,Rf.zrf 10 D _ hkd,← HV.out,he]
   have hNb:=zbT (str s)[k]
   rw [hn.1] at hNb
   obtain ⟨_,hn0,hn1⟩:=hn
   have hn1' : Asc.zjm (Asc.bt (str s)[k]) < 10:=hn1
   clear hn1 he hok
   generalize Asc.zjm (Asc.bt (str s)[k]) = d at *
   go_wp2_with (go_at_call 138;refine (hNb _).mono ?_;rintro e w1 ⟨rfl,hw⟩;rw [hw];clear hw)
   go_round
   case rel=>exact ⟨k + 1,min (v * 10 + d) 4294967295,by omega,by omega,by go_num,by first | rfl | go_num,by omega,by omega,HN.out⟩
   case measure=>simp [intOf];omega
  ·have hkk : k = 2 + D.length:=by omega
   have HV' : Hid (v = Rf.za5 10 0 D):=by
    show _ = _
    rw [HV.out,show k - 2 = D.length from by omega,List.take_length]
   have HK : Hid (k = 2 + D.length):=hkk
   clear HV hlt hkk hk0 hk1
   cases rest with
   | nil =>
    have hki : ¬ (k : Int) < (s.length : Int):=by have:=HK.out;have hsl:=HSL.out;simp at hsl;omega
    by_cases hd : D.length = 0
    ·have hD0 : D = []:=List.eq_nil_of_length_eq_zero hd
     have HR : Hid (zcW false 2 D [] = (0,0,false)):=by show _ = _;unfold zcW;rw [if_pos hD0]
     have hde : ((k : Int) == 2) = true:=by have:=HK.out;rw [beq_iff_eq];omega
     clear hD0 hd
     go_wp2
     go_ret3
     rw [HR.out]
     exact ⟨rfl,Below.refl _ _⟩
    ·have hD0 : D ≠ []:=by intro e;rw [e] at hd;exact hd rfl
     have HR : Hid (zcW false 2 D [] = (Rf.zb1 v,k,true)):=by show _ = _;unfold zcW;rw [if_neg hD0,HV'.out,HK.out];rfl
     have hde : ¬ (k : Int) = 2:=by have:=HK.out;omega
     have hde2 : ((k : Int) == 2) = false:=beq_eq_false_iff_ne.2 hde
     have hN:=fun W=>zbw v W hv0 hv1
     clear hD0 hd
     go_wp2_with (go_at_call 139;refine (hN _).mono ?_;rintro e w1 ⟨rfl,hb1⟩)
     go_ret3
     rw [HR.out]
     exact ⟨by simp [nxV],hb1⟩
   | cons c q =>
    have hki : (k : Int) < (s.length : Int):=by have:=HK.out;have hsl:=HSL.out;simp at hsl;omega
    have hks : k < (str s).size:=by omega
    have he : (str s)[k] = c:=by
     show s[k]'(by omega) = _
     have hk:=HK.out
     have:=zk8 pre D c q (by rw [← HS.out,hpl];omega)
     simp only [hpl] at this
     simp only [HS.out,hk]
     exact this
    have hno:=HR0.out c (by simp)
    have hn:=zkd false c hno
    have hNb:=zbT c
    have hnb : 10 ≤ zes (c.toNat : Int) ∧ zes (c.toNat : Int) ≤ 16:=hn
    clear hn hno
    generalize zes (c.toNat : Int) = d at *
    obtain ⟨hnb0,hnb1⟩:=hnb
    by_cases hd : D.length = 0
    ·have hD0 : D = []:=List.eq_nil_of_length_eq_zero hd
     have HR : Hid (zcW false 2 D (c :: q) = (0,0,false)):=by show _ = _;unfold zcW;rw [if_pos hD0]
     have hde : ((k : Int) == 2) = true:=by have:=HK.out;rw [beq_iff_eq];omega
     clear hD0 hd
     go_wp2_with (go_at_call 138;refine (hNb _).mono ?_;rintro e w1 ⟨rfl,hw⟩;rw [hw];clear hw)
     go_ret3
     rw [HR.out]
     exact ⟨rfl,Below.refl _ _⟩
    ·have hD0 : D ≠ []:=by intro e;rw [e] at hd;exact hd rfl
     have hde : ¬ (k : Int) = 2:=by have:=HK.out;omega
     have hde2 : ((k : Int) == 2) = false:=beq_eq_false_iff_ne.2 hde
     have hN:=fun W=>zbw v W hv0 hv1
     by_cases hc : c = 59
     ·have HR : Hid (zcW false 2 D (c :: q) = (Rf.zb1 v,k + 1,true)):=by show _ = _;unfold zcW;rw [if_neg hD0,HV'.out,hc,HK.out];rfl
      have hq : ((c.toNat : Int) == 59) = true:=by rw [hc];rfl
      clear hD0 hc
      go_wp2_with (first
       | (go_at_call 138;refine (hNb _).mono ?_;rintro e w1 ⟨rfl,hw⟩;rw [hw];clear hw)
       | (go_at_call 139;refine (hN _).mono ?_;rintro e w1 ⟨rfl,hb1⟩))
      go_ret3
      rw [HR.out]
      exact ⟨by simp [nxV],hb1⟩
     ·have HR : Hid (zcW false 2 D (c :: q) = (Rf.zb1 v,k,true)):=by
       show _ = _
       unfold zcW
       rw [if_neg hD0,HV'.out]
       have : Rf.zqS (c :: q) = 0:=by
        unfold Rf.zqS
        rw [if_neg]
        simp [List.isPrefixOf]
        exact fun e=>hc e.symm
       rw [this,HK.out]
       rfl
      have hq : ¬ (c.toNat : Int) = 59:=zdq (k:=59) (by omega) hc
      have hq2 : ((c.toNat : Int) == 59) = false:=beq_eq_false_iff_ne.2 hq
      clear hD0 hc
      go_wp2_with (first
       | (go_at_call 138;refine (hNb _).mono ?_;rintro e w1 ⟨rfl,hw⟩;rw [hw];clear hw)
       | (go_at_call 139;refine (hN _).mono ?_;rintro e w1 ⟨rfl,hb1⟩))
      go_ret3
      rw [HR.out]
      exact ⟨by simp [nxV],hb1⟩
theorem zoN (s pre D rest : List UInt8) (hs : s = pre ++ (D ++ rest)) (hpl : pre.length = 3) (hD : D.all (Rf.dOk true) = true) (hr : ∀ c ∈ rest.head?,Rf.dOk true c = false) (hz : s.length ≤ 1000000000) (w : World) (h2 : 2 < (str s).size) (q1 : ((str s)[2].toNat : Int) = 120) :
  Calls Tryz.prog 111 #[.string (str s)] w fun e w'=>e = .returned (nxV (zcW true 3 D rest)) ∧ Below w.heap.size w w':=by
 have hsz:=zad s
 have hsl : s.length = 3 + D.length + rest.length:=by rw [hs];simp only [List.length_append];omega
 have h2i : (2 : Int) < (s.length : Int):=by omega
 have HS : Hid (s = pre ++ (D ++ rest)):=hs
 have HR0 : Hid (∀ c ∈ rest.head?,Rf.dOk true c = false):=hr
 have HD0 : Hid (D.all (Rf.dOk true) = true):=hD
 have HSL : Hid (s.length = 3 + D.length + rest.length):=hsl
 clear hs hr hD hsl
 have r1 : (((str s)[2].toNat : Int) == 120) = true:=by rw [q1];rfl
 go_enter Tryz.func111,Tryz.ntmps111
 go_wp2
 go_loop [6,7] (fun i n=>∃ (k : Nat) (v : Int),3 ≤ k ∧ k ≤ 3 + D.length ∧ i = .int .i64 k ∧ n = .int .u64 v ∧ 0 ≤ v ∧ v ≤ 4294967295 ∧ Hid (v = Rf.za5 16 0 (D.take (k - 3)))) (fun i _=>3 + D.length - (intOf i).toNat)
 case atStart=>exact ⟨3,0,by omega,by omega,rfl,rfl,by omega,by omega,by show _ = _;simp [Rf.za5]⟩
 case round =>
  obtain ⟨k,v,hk0,hk1,rfl,rfl,hv0,hv1,HV⟩:=hrel
  by_cases hlt : k < 3 + D.length
  ·have hks : k < (str s).size:=by have:=HSL.out;omega
   have hki : (k : Int) < (s.length : Int):=by omega
   have hkd : k - 3 < D.length:=by omega
   have he : (str s)[k] = D[k - 3]:=by
    show s[k]'(by omega) = _
    have:=zoL pre D rest k (by omega) (by omega) (by rw [← HS.out];omega)
    simp only [hpl] at this
    simp only [HS.out]
    exact this
   have hok : Rf.dOk true (str s)[k] = true:=by
    rw [he]
    exact List.all_eq_true.1 HD0.out _ (List.getElem_mem hkd)
   have hn:=zhP true (str s)[k] hok
   have HN : Hid (min (v * 16 + Asc.zjm (Asc.bt (str s)[k])) 4294967295 = Rf.za5 16 0 (D.take (k + 1 - 3))):=by
    show _ = _
    rw [show k + 1 - 3 = k - 3 + 1 from by omega,Rf.zrf 16 D _ hkd,← HV.out,he]
   have hNb:=zbT (str s)[k]
   rw [hn.1] at hNb
   obtain ⟨_,hn0,hn1⟩:=hn
   have hn1' : Asc.zjm (Asc.bt (str s)[k]) < 16:=hn1
   clear hn1 he hok
   generalize Asc.zjm (Asc.bt (str s)[k]) = d at *
   go_wp2_with (go_at_call 138;refine (hNb _).mono ?_;rintro e w1 ⟨rfl,hw⟩;rw [hw];clear hw)
   go_round
   case rel=>exact ⟨k + 1,min (v * 16 + d) 4294967295,by omega,by omega,by go_num,by first | rfl | go_num,by omega,by omega,HN.out⟩
   case measure=>simp [intOf];omega
  ·have hkk : k = 3 + D.length:=by omega
   have HV' : Hid (v = Rf.za5 16 0 D):=by
    show _ = _
    rw [HV.out,show k - 3 = D.length from by omega,List.take_length]
   have HK : Hid (k = 3 + D.length):=hkk
   clear HV hlt hkk hk0 hk1
   cases rest with
   | nil =>
    have hki : ¬ (k : Int) < (s.length : Int):=by have:=HK.out;have hsl:=HSL.out;simp at hsl;omega
    by_cases hd : D.length = 0
    ·have hD0 : D = []:=List.eq_nil_of_length_eq_zero hd
     have HR : Hid (zcW true 3 D [] = (0,0,false)):=by show _ = _;unfold zcW;rw [if_pos hD0]
     have hde : ((k : Int) == 3) = true:=by have:=HK.out;rw [beq_iff_eq];omega
     clear hD0 hd
     go_wp2
     go_ret3
     rw [HR.out]
     exact ⟨rfl,Below.refl _ _⟩
    ·have hD0 : D ≠ []:=by intro e;rw [e] at hd;exact hd rfl
     have HR : Hid (zcW true 3 D [] = (Rf.zb1 v,k,true)):=by show _ = _;unfold zcW;rw [if_neg hD0,HV'.out,HK.out];rfl
     have hde : ¬ (k : Int) = 3:=by have:=HK.out;omega
     have hde2 : ((k : Int) == 3) = false:=beq_eq_false_iff_ne.2 hde
     have hN:=fun W=>zbw v W hv0 hv1
     clear hD0 hd
     go_wp2_with (go_at_call 139;refine (hN _).mono ?_;rintro e w1 ⟨rfl,hb1⟩)
     go_ret3
     rw [HR.out]
     exact ⟨by simp [nxV],hb1⟩
   | cons c q =>
    have hki : (k : Int) < (s.length : Int):=by have:=HK.out;have hsl:=HSL.out;simp at hsl;omega
    have hks : k < (str s).size:=by omega
    have he : (str s)[k] = c:=by
     show s[k]'(by omega) = _
     have hk:=HK.out
     have:=zk8 pre D c q (by rw [← HS.out,hpl];omega)
     simp only [hpl] at this
     simp only [HS.out,hk]
     exact this
    have hno:=HR0.out c (by simp)
    have hn:=zkd true c hno
    have hNb:=zbT c
    have hnb : 16 ≤ zes (c.toNat : Int) ∧ zes (c.toNat : Int) ≤ 16:=hn
    clear hn hno
    generalize zes (c.toNat : Int) = d at *
    obtain ⟨hnb0,hnb1⟩:=hnb
    by_cases hd : D.length = 0
    ·have hD0 : D = []:=List.eq_nil_of_length_eq_zero hd
     have HR : Hid (zcW true 3 D (c :: q) = (0,0,false)):=by show _ = _;unfold zcW;rw [if_pos hD0]
     have hde : ((k : Int) == 3) = true:=by have:=HK.out;rw [beq_iff_eq];omega
     clear hD0 hd
     go_wp2_with (go_at_call 138;refine (hNb _).mono ?_;rintro e w1 ⟨rfl,hw⟩;rw [hw];clear hw)
     go_ret3
     rw [HR.out]
     exact ⟨rfl,Below.refl _ _⟩
    ·have hD0 : D ≠ []:=by intro e;rw [e] at hd;exact hd rfl
     have hde : ¬ (k : Int) = 3:=by have:=HK.out;omega
     have hde2 : ((k : Int) == 3) = false:=beq_eq_false_iff_ne.2 hde
     have hN:=fun W=>zbw v W hv0 hv1
     by_cases hc : c = 59
     ·have HR : Hid (zcW true 3 D (c :: q) = (Rf.zb1 v,k + 1,true)):=by show _ = _;unfold zcW;rw [if_neg hD0,HV'.out,hc,HK.out];rfl
      have hq : ((c.toNat : Int) == 59) = true:=by rw [hc];rfl
      clear hD0 hc
      go_wp2_with (first
       | (go_at_call 138;refine (hNb _).mono ?_;rintro e w1 ⟨rfl,hw⟩;rw [hw];clear hw)
       | (go_at_call 139;refine (hN _).mono ?_;rintro e w1 ⟨rfl,hb1⟩))
      go_ret3
      rw [HR.out]
      exact ⟨by simp [nxV],hb1⟩
     ·have HR : Hid (zcW true 3 D (c :: q) = (Rf.zb1 v,k,true)):=by
       show _ = _
       unfold zcW
       rw [if_neg hD0,HV'.out]
       have : Rf.zqS (c :: q) = 0:=by
        unfold Rf.zqS
        rw [if_neg]
        simp [List.isPrefixOf]
        exact fun e=>hc e.symm
       rw [this,HK.out]
       rfl
      have hq : ¬ (c.toNat : Int) = 59:=zdq (k:=59) (by omega) hc
      have hq2 : ((c.toNat : Int) == 59) = false:=beq_eq_false_iff_ne.2 hq
      clear hD0 hc
      go_wp2_with (first
       | (go_at_call 138;refine (hNb _).mono ?_;rintro e w1 ⟨rfl,hw⟩;rw [hw];clear hw)
       | (go_at_call 139;refine (hN _).mono ?_;rintro e w1 ⟨rfl,hb1⟩))
      go_ret3
      rw [HR.out]
      exact ⟨by simp [nxV],hb1⟩
theorem zoO (s pre D rest : List UInt8) (hs : s = pre ++ (D ++ rest)) (hpl : pre.length = 3) (hD : D.all (Rf.dOk true) = true) (hr : ∀ c ∈ rest.head?,Rf.dOk true c = false) (hz : s.length ≤ 1000000000) (w : World) (h2 : 2 < (str s).size) (q1 : ¬ ((str s)[2].toNat : Int) = 120) (q2 : ((str s)[2].toNat : Int) = 88) :
  Calls Tryz.prog 111 #[.string (str s)] w fun e w'=>e = .returned (nxV (zcW true 3 D rest)) ∧ Below w.heap.size w w':=by
 have hsz:=zad s
 have hsl : s.length = 3 + D.length + rest.length:=by rw [hs];simp only [List.length_append];omega
 have h2i : (2 : Int) < (s.length : Int):=by omega
 have HS : Hid (s = pre ++ (D ++ rest)):=hs
 have HR0 : Hid (∀ c ∈ rest.head?,Rf.dOk true c = false):=hr
 have HD0 : Hid (D.all (Rf.dOk true) = true):=hD
 have HSL : Hid (s.length = 3 + D.length + rest.length):=hsl
 clear hs hr hD hsl
 have r1 : (((str s)[2].toNat : Int) == 120) = false:=beq_eq_false_iff_ne.2 q1
 have r2 : (((str s)[2].toNat : Int) == 88) = true:=by rw [q2];rfl
 go_enter Tryz.func111,Tryz.ntmps111
 go_wp2
 go_loop [6,7] (fun i n=>∃ (k : Nat) (v : Int),3 ≤ k ∧ k ≤ 3 + D.length ∧ i = .int .i64 k ∧ n = .int .u64 v ∧ 0 ≤ v ∧ v ≤ 4294967295 ∧ Hid (v = Rf.za5 16 0 (D.take (k - 3)))) (fun i _=>3 + D.length - (intOf i).toNat)
 case atStart=>exact ⟨3,0,by omega,by omega,rfl,rfl,by omega,by omega,by show _ = _;simp [Rf.za5]⟩
 case round =>
  obtain ⟨k,v,hk0,hk1,rfl,rfl,hv0,hv1,HV⟩:=hrel
  by_cases hlt : k < 3 + D.length
  ·have hks : k < (str s).size:=by have:=HSL.out;omega
   have hki : (k : Int) < (s.length : Int):=by omega
   have hkd : k - 3 < D.length:=by omega
   have he : (str s)[k] = D[k - 3]:=by
    show s[k]'(by omega) = _
    have:=zoL pre D rest k (by omega) (by omega) (by rw [← HS.out];omega)
    simp only [hpl] at this
    simp only [HS.out]
    exact this
   have hok : Rf.dOk true (str s)[k] = true:=by
    rw [he]
    exact List.all_eq_true.1 HD0.out _ (List.getElem_mem hkd)
   have hn:=zhP true (str s)[k] hok
   have HN : Hid (min (v * 16 + Asc.zjm (Asc.bt (str s)[k])) 4294967295 = Rf.za5 16 0 (D.take (k + 1 - 3))):=by
    show _ = _
    rw [show k + 1 - 3 = k - 3 + 1 from by omega,Rf.zrf 16 D _ hkd,← HV.out,he]
   have hNb:=zbT (str s)[k]
   rw [hn.1] at hNb
   obtain ⟨_,hn0,hn1⟩:=hn
   have hn1' : Asc.zjm (Asc.bt (str s)[k]) < 16:=hn1
   clear hn1 he hok
   generalize Asc.zjm (Asc.bt (str s)[k]) = d at *
   go_wp2_with (go_at_call 138;refine (hNb _).mono ?_;rintro e w1 ⟨rfl,hw⟩;rw [hw];clear hw)
   go_round
   case rel=>exact ⟨k + 1,min (v * 16 + d) 4294967295,by omega,by omega,by go_num,by first | rfl | go_num,by omega,by omega,HN.out⟩
   case measure=>simp [intOf];omega
  ·have hkk : k = 3 + D.length:=by omega
   have HV' : Hid (v = Rf.za5 16 0 D):=by
    show _ = _
    rw [HV.out,show k - 3 = D.length from by omega,List.take_length]
   have HK : Hid (k = 3 + D.length):=hkk
   clear HV hlt hkk hk0 hk1
   cases rest with
   | nil =>
    have hki : ¬ (k : Int) < (s.length : Int):=by have:=HK.out;have hsl:=HSL.out;simp at hsl;omega
    by_cases hd : D.length = 0
    ·have hD0 : D = []:=List.eq_nil_of_length_eq_zero hd
     have HR : Hid (zcW true 3 D [] = (0,0,false)):=by show _ = _;unfold zcW;rw [if_pos hD0]
     have hde : ((k : Int) == 3) = true:=by have:=HK.out;rw [beq_iff_eq];omega
     clear hD0 hd
     go_wp2
     go_ret3
     rw [HR.out]
     exact ⟨rfl,Below.refl _ _⟩
    ·have hD0 : D ≠ []:=by intro e;rw [e] at hd;exact hd rfl
     have HR : Hid (zcW true 3 D [] = (Rf.zb1 v,k,true)):=by show _ = _;unfold zcW;rw [if_neg hD0,HV'.out,HK.out];rfl
     have hde : ¬ (k : Int) = 3:=by have:=HK.out;omega
     have hde2 : ((k : Int) == 3) = false:=beq_eq_false_iff_ne.2 hde
     have hN:=fun W=>zbw v W hv0 hv1
     clear hD0 hd
     go_wp2_with (go_at_call 139;refine (hN _).mono ?_;rintro e w1 ⟨rfl,hb1⟩)
     go_ret3
     rw [HR.out]
     exact ⟨by simp [nxV],hb1⟩
   | cons c q =>
    have hki : (k : Int) < (s.length : Int):=by have:=HK.out;have hsl:=HSL.out;simp at hsl;omega
    have hks : k < (str s).size:=by omega
    have he : (str s)[k] = c:=by
     show s[k]'(by omega) = _
     have hk:=HK.out
     have:=zk8 pre D c q (by rw [← HS.out,hpl];omega)
     simp only [hpl] at this
     simp only [HS.out,hk]
     exact this
    have hno:=HR0.out c (by simp)
    have hn:=zkd true c hno
    have hNb:=zbT c
    have hnb : 16 ≤ zes (c.toNat : Int) ∧ zes (c.toNat : Int) ≤ 16:=hn
    clear hn hno
    generalize zes (c.toNat : Int) = d at *
    obtain ⟨hnb0,hnb1⟩:=hnb
    by_cases hd : D.length = 0
    ·have hD0 : D = []:=List.eq_nil_of_length_eq_zero hd
     have HR : Hid (zcW true 3 D (c :: q) = (0,0,false)):=by show _ = _;unfold zcW;rw [if_pos hD0]
     have hde : ((k : Int) == 3) = true:=by have:=HK.out;rw [beq_iff_eq];omega
     clear hD0 hd
     go_wp2_with (go_at_call 138;refine (hNb _).mono ?_;rintro e w1 ⟨rfl,hw⟩;rw [hw];clear hw)
     go_ret3
     rw [HR.out]
     exact ⟨rfl,Below.refl _ _⟩
    ·have hD0 : D ≠ []:=by intro e;rw [e] at hd;exact hd rfl
     have hde : ¬ (k : Int) = 3:=by have:=HK.out;omega
     have hde2 : ((k : Int) == 3) = false:=beq_eq_false_iff_ne.2 hde
     have hN:=fun W=>zbw v W hv0 hv1
     by_cases hc : c = 59
     ·have HR : Hid (zcW true 3 D (c :: q) = (Rf.zb1 v,k + 1,true)):=by show _ = _;unfold zcW;rw [if_neg hD0,HV'.out,hc,HK.out];rfl
      have hq : ((c.toNat : Int) == 59) = true:=by rw [hc];rfl
      clear hD0 hc
      go_wp2_with (first
       | (go_at_call 138;refine (hNb _).mono ?_;rintro e w1 ⟨rfl,hw⟩;rw [hw];clear hw)
       | (go_at_call 139;refine (hN _).mono ?_;rintro e w1 ⟨rfl,hb1⟩))
      go_ret3
      rw [HR.out]
      exact ⟨by simp [nxV],hb1⟩
     ·have HR : Hid (zcW true 3 D (c :: q) = (Rf.zb1 v,k,true)):=by
       show _ = _
       unfold zcW
       rw [if_neg hD0,HV'.out]
       have : Rf.zqS (c :: q) = 0:=by
        unfold Rf.zqS
        rw [if_neg]
        simp [List.isPrefixOf]
        exact fun e=>hc e.symm
       rw [this,HK.out]
       rfl
      have hq : ¬ (c.toNat : Int) = 59:=zdq (k:=59) (by omega) hc
      have hq2 : ((c.toNat : Int) == 59) = false:=beq_eq_false_iff_ne.2 hq
      clear hD0 hc
      go_wp2_with (first
       | (go_at_call 138;refine (hNb _).mono ?_;rintro e w1 ⟨rfl,hw⟩;rw [hw];clear hw)
       | (go_at_call 139;refine (hN _).mono ?_;rintro e w1 ⟨rfl,hb1⟩))
      go_ret3
      rw [HR.out]
      exact ⟨by simp [nxV],hb1⟩
end Go.Proofs.YtiodaahncadodaaGreatDoor
namespace Rf
open Asc
theorem nx_hash (a : Bool) (r : List UInt8) : nx a (38 :: 35 :: r) = if zc1 (35 :: r) = [] then (0,0,false) else (zb1 (za5 (zia (zc0 (35 :: r))) 0 (zc1 (35 :: r))),1 + fr (zc0 (35 :: r)) + (zc1 (35 :: r)).length + zqS ((35 :: r).drop (fr (zc0 (35 :: r)) + (zc1 (35 :: r)).length)),true):=by
 rw [zqU]
 obtain ⟨h1,h2,h3⟩:=zmG a r
 have hi : zkq (35 :: r) = !(zc1 (35 :: r)).isEmpty:=by
  unfold zkq
  simp [List.isPrefixOf]
 by_cases hd : zc1 (35 :: r) = []
 ·have : zcT (35 :: r) = 0:=by unfold zcT;rw [hi,hd];rfl
  unfold next
  rw [this,h1,h3,hd]
  rfl
 ·have hi' : zkq (35 :: r) = true:=by
   rw [hi]
   cases h : zc1 (35 :: r) with
   | nil=>exact absurd h hd
   | cons c q=>rfl
  have hv:=zhl (35 :: r) hd
  have hf : 1 ≤ fr (zc0 (35 :: r)):=by unfold fr;split <;> omega
  have e1 : zcT (35 :: r) = fr (zc0 (35 :: r)) + (zc1 (35 :: r)).length + zqS ((35 :: r).drop (fr (zc0 (35 :: r)) + (zc1 (35 :: r)).length)):=by unfold zcT;rw [hi'];rfl
  have e2 : zfw (35 :: r) = zb1 (za5 (zia (zc0 (35 :: r))) 0 (zc1 (35 :: r))):=by
   unfold zfw
   rw [hi',← hv]
   rfl
  have hz : ¬ zcT (35 :: r) = 0:=by rw [e1];omega
  have e3 : next a (35 :: r) = (zfw (35 :: r),zcT (35 :: r)):=by unfold next;rw [if_pos hz]
  rw [e3,if_neg hd]
  show (if zcT (35 :: r) = 0 then _ else (zfw (35 :: r),zcT (35 :: r) + 1,true)) = _
  rw [if_neg hz,e1,e2]
  congr 2
  omega
theorem zgz (p : UInt8 → Bool) : ∀ (l : List UInt8) (c : UInt8),c ∈ (l.drop (l.takeWhile p).length).head? → p c = false
 | [],c,h=>by simp at h
 | x :: l,c,h=>by
  rw [List.takeWhile_cons] at h
  cases hx : p x
  ·rw [hx] at h
   simp at h
   subst h
   exact hx
  ·rw [hx] at h
   simp at h
   exact zgz p l c (by simpa using h)
end Rf
namespace Go.Proofs.YtiodaahncadodaaGreatDoor
open Go.RowKit
theorem zke (w : World) :
  Calls Tryz.prog 111 #[.string (str [38,35])] w fun e w'=>e = .returned (nxV (0,0,false)) ∧ Below w.heap.size w w':=by
 have hsz : (str [38,35]).size = 2:=rfl
 go_enter Tryz.func111,Tryz.ntmps111
 go_wp2
 go_loop [6,7] (fun i n=>i = .int .i64 2 ∧ n = .int .u64 0) (fun i _=>0)
 case atStart=>exact ⟨rfl,rfl⟩
 case round =>
  obtain ⟨rfl,rfl⟩:=hrel
  go_wp2
  go_ret3
  exact ⟨rfl,Below.refl _ _⟩
theorem zkf (a : Bool) (r : List UInt8) (w : World) (hz : r.length ≤ 100000000) :
  Calls Tryz.prog 111 #[.string (str (38 :: 35 :: r))] w fun e w'=>e = .returned (nxV (Rf.nx a (38 :: 35 :: r))) ∧ Below w.heap.size w w':=by
 rw [Rf.nx_hash]
 cases r with
 | nil =>
  rw [if_pos (by decide +kernel)]
  exact zke w
 | cons c q =>
  have h2 : 2 < (str (38 :: 35 :: c :: q)).size:=by rw [zad];simp
  have hat : ((str (38 :: 35 :: c :: q))[2]) = c:=rfl
  have hl : (38 :: 35 :: c :: q).length ≤ 1000000000:=by simp at hz ⊢;omega
  have key : ∀ (b : Bool) (pre : List UInt8),Rf.zc0 (35 :: c :: q) = b → 38 :: 35 :: c :: q = pre ++ ((35 :: c :: q).drop (Rf.fr b)) → pre.length = 1 + Rf.fr b →
    38 :: 35 :: c :: q = pre ++ (Rf.zc1 (35 :: c :: q) ++ (35 :: c :: q).drop (Rf.fr b + (Rf.zc1 (35 :: c :: q)).length)) ∧ (Rf.zc1 (35 :: c :: q)).all (Rf.dOk b) = true ∧ (∀ x ∈ ((35 :: c :: q).drop (Rf.fr b + (Rf.zc1 (35 :: c :: q)).length)).head?,Rf.dOk b x = false):=by
   intro b pre hb he hp
   have hd : Rf.zc1 (35 :: c :: q) = ((35 :: c :: q).drop (Rf.fr b)).takeWhile (Rf.dOk b):=by unfold Rf.zc1;rw [hb]
   rw [hd,← List.drop_drop]
   refine ⟨?_,Rf.zb9 _ _,Rf.zgz _ _⟩
   rw [← Rf.zgo]
   exact he
  by_cases h120 : c = 120
  ·have hb : Rf.zc0 (35 :: c :: q) = true:=by rw [h120];simp [Rf.zc0,List.isPrefixOf]
   obtain ⟨k1,k2,k3⟩:=key true [38,35,c] hb rfl rfl
   have:=zoN _ [38,35,c] _ _ k1 rfl k2 k3 hl w h2 (by rw [hat,h120];rfl)
   unfold zcW at this
   rw [hb]
   exact this
  ·have q1 : ¬ ((str (38 :: 35 :: c :: q))[2].toNat : Int) = 120:=by rw [hat];exact zdq (k:=120) (by omega) h120
   by_cases h88 : c = 88
   ·have hb : Rf.zc0 (35 :: c :: q) = true:=by rw [h88];simp [Rf.zc0,List.isPrefixOf]
    obtain ⟨k1,k2,k3⟩:=key true [38,35,c] hb rfl rfl
    have:=zoO _ [38,35,c] _ _ k1 rfl k2 k3 hl w h2 q1 (by rw [hat,h88];rfl)
    unfold zcW at this
    rw [hb]
    exact this
   ·have hb : Rf.zc0 (35 :: c :: q) = false:=by
     have e1 : ((120 : UInt8) == c) = false:=beq_eq_false_iff_ne.2 (fun e=>h120 e.symm)
     have e2 : ((88 : UInt8) == c) = false:=beq_eq_false_iff_ne.2 (fun e=>h88 e.symm)
     simp [Rf.zc0,List.isPrefixOf,e1,e2]
    obtain ⟨k1,k2,k3⟩:=key false [38,35] hb rfl rfl
    have:=zoM _ [38,35] _ _ k1 rfl k2 k3 hl w h2 q1 (by rw [hat];exact zdq (k:=88) (by omega) h88)
    unfold zcW at this
    rw [hb]
    exact this
theorem zcd (s p : ByteArray) (w : World) :
  Calls Tryz.prog 110 #[.string s,.string p] w fun e w'=>e = .returned (.bool (p.data.toList.isPrefixOf s.data.toList)) ∧ w' = w:=by
 have:=zcj s.data.toList p.data.toList w
 rw [zhc,zhc] at this
 exact this
end Go.Proofs.YtiodaahncadodaaGreatDoor
