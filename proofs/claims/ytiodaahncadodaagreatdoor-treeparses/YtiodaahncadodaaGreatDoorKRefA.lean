/- Texts laid as one. -/
import Derived.Test.YtiodaahncadodaaGreatDoorKUPart
import Derived.Laws.BitsAllLaws
import Derived.Test.YtiodaahncadodaaGreatDoorKUPut
set_option maxRecDepth 100000
set_option maxHeartbeats 2000000
namespace Utf
def off (n : Nat) : Int:=if n = 2 then 192 else if n = 3 then 224 else if n = 4 then 240 else 0
def zgA (l : List UInt8) (o : Int) : Nat → Int
 | 0=>0
 | 1=>(at' l 0 : Int) - o
 | (i + 2)=>zgA l o (i + 1) * 64 + (at' l (i + 1) : Int) - 128
theorem zgB (l : List UInt8) (o : Int) : zgA l o 1 = (at' l 0 : Int) - o:=rfl
theorem zi9 (l : List UInt8) (o : Int) (i : Nat) (h : 1 ≤ i) : zgA l o (i + 1) = zgA l o i * 64 + (at' l i : Int) - 128:=by
 cases i with
 | zero=>omega
 | succ i=>rfl
theorem zk9 (l : List UInt8) (hw : (zbs l).2 = true) : (zbs l).1 = sz (at' l 0) ∧ 1 ≤ sz (at' l 0):=by
 have hs4:=zii (at' l 0)
 unfold zbs zbm at *
 revert hw
 repeat' split
 all_goals intro hw
 all_goals first | (cases hw;done) | skip
 all_goals dsimp only
 all_goals omega
theorem zqT (l : List UInt8) (hw : (zbs l).2 = true) (i : Nat) (h1 : 1 ≤ i) (hi : i < sz (at' l 0)) : 0 ≤ zgA l (off (sz (at' l 0))) i ∧ zgA l (off (sz (at' l 0))) i ≤ 30000:=by
 obtain ⟨e1,e2⟩:=zk9 l hw
 have cont : ∀ j,1 ≤ j → j < sz (at' l 0) → 128 ≤ at' l j ∧ at' l j ≤ 191:=fun j a b=>zh6 l j a (by omega)
 have hs4:=zii (at' l 0)
 have v1 : zgA l (off (sz (at' l 0))) 1 = _:=rfl
 have v2 : zgA l (off (sz (at' l 0))) 2 = _:=zi9 l _ 1 (by omega)
 have v3 : zgA l (off (sz (at' l 0))) 3 = _:=zi9 l _ 2 (by omega)
 rcases zgF (at' l 0) (by omega) with q | q | q | q
 ·omega
 ·have : off (sz (at' l 0)) = 192:=by rw [q.1];rfl
  obtain rfl : i = 1:=by omega
  rw [zgB,this];omega
 ·have : off (sz (at' l 0)) = 224:=by rw [q.1];rfl
  have c1:=cont 1 (by omega) (by omega)
  obtain rfl | rfl : i = 1 ∨ i = 2:=by omega
  ·rw [zgB,this];omega
  ·rw [v2,zgB,this];omega
 ·have : off (sz (at' l 0)) = 240:=by rw [q.1];rfl
  have c1:=cont 1 (by omega) (by omega)
  have c2:=cont 2 (by omega) (by omega)
  obtain rfl | rfl | rfl : i = 1 ∨ i = 2 ∨ i = 3:=by omega
  ·rw [zgB,this];omega
  ·rw [v2,zgB,this];omega
  ·rw [v3,v2,zgB,this];omega
theorem val_end (l : List UInt8) (h : l ≠ []) (hw : (zbs l).2 = true) : zgA l (off (sz (at' l 0))) (sz (at' l 0)) = ((dec l).1 : Int):=by
 obtain ⟨e1,e2⟩:=zk9 l hw
 have cont : ∀ j,1 ≤ j → j < sz (at' l 0) → 128 ≤ at' l j ∧ at' l j ≤ 191:=fun j a b=>zh6 l j a (by omega)
 have hpl:=zko l h
 have hb2 : 2 ≤ sz (at' l 0) → lo (at' l 0) ≤ at' l 1 ∧ at' l 1 ≤ hi (at' l 0):=by
  intro h2
  unfold zbs zbm at hw
  rw [if_neg (by omega),if_neg (by omega)] at hw
  split at hw
  ·cases hw
  ·omega
 rcases zgF (at' l 0) (by omega) with q | q | q | q
 ·have : off (sz (at' l 0)) = 0:=by rw [q.1];rfl
  rw [this,q.1,zgB]
  unfold dec
  rw [zrh _ _ _ _ _ q.2]
  omega
 ·have : off (sz (at' l 0)) = 192:=by rw [q.1];rfl
  have c1:=cont 1 (by omega) (by omega)
  rw [this,q.1,zi9 l _ 1 (by omega),zgB]
  unfold dec
  rw [zri _ _ _ _ _ (by omega) q.2 c1]
  simp only
  omega
 ·have : off (sz (at' l 0)) = 224:=by rw [q.1];rfl
  have c1:=cont 1 (by omega) (by omega)
  have c2:=cont 2 (by omega) (by omega)
  rw [this,q.1,zi9 l _ 2 (by omega),zi9 l _ 1 (by omega),zgB]
  unfold dec
  rw [zrj _ _ _ _ _ (by omega) q.2 (hb2 (by omega)) c2]
  simp only
  omega
 ·have : off (sz (at' l 0)) = 240:=by rw [q.1];rfl
  have c1:=cont 1 (by omega) (by omega)
  have c2:=cont 2 (by omega) (by omega)
  have c3:=cont 3 (by omega) (by omega)
  rw [this,q.1,zi9 l _ 3 (by omega),zi9 l _ 2 (by omega),zi9 l _ 1 (by omega),zgB]
  unfold dec
  rw [zrk _ _ _ _ _ (by omega) q.2 (hb2 (by omega)) c2 c3]
  simp only
  omega
def zoP (b k x : Nat) : Bool:=decide ((if k = 1 then lo b else 128) ≤ x ∧ x ≤ (if k = 1 then hi b else 191))
theorem zla (b k x : Nat) (h : 1 < sz b) : zoP b k x = false ↔ (x < zih b k ∨ zeW b k < x):=by
 have e':=znf (b:=b) (by omega)
 unfold zoP zih zeW
 rw [e'.1,e'.2,decide_eq_false_iff_not]
 omega
end Utf
namespace Go.Proofs.YtiodaahncadodaaGreatDoor
open Go.RowKit
theorem zge (c : Int) (w : World) :
  Calls Tryz.prog 136 #[.int .i32 c] w fun e w'=>e = .returned (.bool (Utf.right c)) ∧ w' = w:=by
 by_cases h1 : 0 ≤ c
 ·by_cases h2 : c ≤ 1114111
  ·by_cases h3 : c < 55296
   ·have hr : Utf.right c = true:=by unfold Utf.right;exact decide_eq_true (by omega)
    rw [hr]
    go_enter Tryz.func136,Tryz.ntmps136
    go_wp2
    go_ret
    exact ⟨zac (by first | rfl | (simp <;> omega)),rfl⟩
   ·by_cases h4 : 57343 < c
    ·have hr : Utf.right c = true:=by unfold Utf.right;exact decide_eq_true (by omega)
     rw [hr]
     go_enter Tryz.func136,Tryz.ntmps136
     go_wp2
     go_ret
     exact ⟨zac (by first | rfl | (simp <;> omega)),rfl⟩
    ·have hr : Utf.right c = false:=by unfold Utf.right;exact decide_eq_false (by omega)
     rw [hr]
     go_enter Tryz.func136,Tryz.ntmps136
     go_wp2
     go_ret
     exact ⟨zac (by first | rfl | (simp <;> omega)),rfl⟩
  ·have hr : Utf.right c = false:=by unfold Utf.right;exact decide_eq_false (by omega)
   rw [hr]
   go_enter Tryz.func136,Tryz.ntmps136
   go_wp2
   go_ret
   exact ⟨zac (by first | rfl | (simp <;> omega)),rfl⟩
 ·have hr : Utf.right c = false:=by unfold Utf.right;exact decide_eq_false (by omega)
  rw [hr]
  go_enter Tryz.func136,Tryz.ntmps136
  go_wp2
  go_ret
  exact ⟨zac (by first | rfl | (simp <;> omega)),rfl⟩
theorem zlb (b : Nat) (w : World) :
  Calls Tryz.prog 134 #[.int .u8 b] w fun e w'=>e = .returned (.int .i64 (Utf.sz b : Nat)) ∧ w' = w:=by
 go_enter Tryz.func134,Tryz.ntmps134
 go_wp2
 all_goals go_ret
 all_goals refine ⟨?_,rfl⟩
 all_goals unfold Utf.sz
 all_goals repeat' split
 all_goals first | rfl | (exfalso;omega) | (exfalso;simp at *;omega)
theorem zlc (b k x : Nat) (w : World) :
  Calls Tryz.prog 135 #[.int .u8 b,.int .i64 k,.int .u8 x] w fun e w'=>e = .returned (.bool (Utf.zoP b k x)) ∧ w' = w:=by
 by_cases hk : k = 1
 ·subst hk
  go_enter Tryz.func135,Tryz.ntmps135
  go_wp2
  all_goals go_ret
  all_goals refine ⟨zac ?_,rfl⟩
  all_goals rw [Bool.eq_iff_iff]
  all_goals unfold Utf.zoP Utf.lo Utf.hi
  all_goals rw [decide_eq_true_iff]
  all_goals simp at *
  all_goals repeat' split
  all_goals omega
 ·have hq : ((k : Int) == 1) = false:=by rw [beq_eq_false_iff_ne];omega
  go_enter Tryz.func135,Tryz.ntmps135
  go_wp2
  all_goals go_ret
  all_goals refine ⟨zac ?_,rfl⟩
  all_goals rw [Bool.eq_iff_iff]
  all_goals unfold Utf.zoP
  all_goals rw [decide_eq_true_iff,if_neg hk,if_neg hk]
  all_goals simp
  all_goals omega
theorem zfn (w : World) (xs : List Value) (l : List UInt8) (n : Nat) (h : zaz l = xs) (hn : l.length = n) (hl : n ≤ 100) :
  zao (w.alloc (.cells xs.toArray 5)) w.heap.size (.slice (some ⟨w.heap.size,0,none⟩) n n) l:=by
 subst h hn
 refine ⟨by rw [zan,Nat.mul_one],.inr ⟨w.heap.size,l.length,_,rfl,Nat.le_refl _,zaf w _,Nat.le_refl _,by unfold maxLen;omega,?_,?_⟩⟩
 ·rw [List.size_toArray,zan,Nat.mul_one]
 ·rw [Nat.mul_one]
  exact List.take_of_length_le (by rw [zan];exact Nat.le_refl _)
theorem zdr (c : Int) : zaz (Lib.encodeRune c) = Lib.runeCells c:=by rw [zb0,Lib.byteCells_encodeRune]
theorem zja (c : Int) (w : World) (hc : Utf.right c = true) :
  Calls Tryz.prog 106 #[.int .i32 c] w fun e w'=>∃ v',e = .returned v' ∧ zao w' w.heap.size v' (Lib.encodeRune c) ∧ Below w.heap.size w w':=by
 have hr : 0 ≤ c ∧ c ≤ 1114111 ∧ (c < 55296 ∨ 57343 < c):=by simpa [Utf.right] using hc
 have hb : ∀ o,Below w.heap.size w (w.alloc o):=fun o=>(Below.refl _ w).alloc (Nat.le_refl _) _
 by_cases c1 : c < 128
 ·have HE : Hid (zaz (Lib.encodeRune c) = [.int .u8 c]):=by
   show _ = _
   rw [zdr,Lib.runeCells,Lib.encodeRuneZ_one hr.1 (by omega)];rfl
  have HN : Hid ((Lib.encodeRune c).length = 1):=by show _ = _;rw [← zan,HE.out];rfl
  go_enter Tryz.func106,Tryz.ntmps106
  go_wp2_with (go_at_call 136;refine (zge _ _).mono ?_;rintro e w1 ⟨rfl,hw⟩;rw [hw];clear hw)
  go_ret
  exact ⟨_,rfl,zfn w _ _ _ HE.out HN.out (by decide),hb _⟩
 by_cases c2 : c < 2048
 ·have d1 : (c).tdiv 64 = c / 64:=Int.tdiv_eq_ediv_of_nonneg (by omega)
  have m1 : (c).tmod 64 = c % 64:=Int.tmod_eq_emod_of_nonneg (by omega)
  have HE : Hid (zaz (Lib.encodeRune c) = [.int .u8 (192 + c / 64),.int .u8 (128 + c % 64)]):=by
   show _ = _
   rw [zdr,Lib.runeCells,Lib.encodeRuneZ_two (by omega) (by omega)];rfl
  have HN : Hid ((Lib.encodeRune c).length = 2):=by show _ = _;rw [← zan,HE.out];rfl
  go_enter Tryz.func106,Tryz.ntmps106
  go_wp2_with (go_at_call 136;refine (zge _ _).mono ?_;rintro e w1 ⟨rfl,hw⟩;rw [hw];clear hw)
  go_ret
  exact ⟨_,rfl,zfn w _ _ _ HE.out HN.out (by decide),hb _⟩
 by_cases c3 : c < 65536
 ·have d1 : (c).tdiv 4096 = c / 4096:=Int.tdiv_eq_ediv_of_nonneg (by omega)
  have d2 : (c).tdiv 64 = c / 64:=Int.tdiv_eq_ediv_of_nonneg (by omega)
  have m1 : (c).tmod 64 = c % 64:=Int.tmod_eq_emod_of_nonneg (by omega)
  have m2 : (c / 64).tmod 64 = c / 64 % 64:=Int.tmod_eq_emod_of_nonneg (by omega)
  have HE : Hid (zaz (Lib.encodeRune c) = [.int .u8 (224 + c / 4096),.int .u8 (128 + c / 64 % 64),.int .u8 (128 + c % 64)]):=by
   show _ = _
   rw [zdr,Lib.runeCells,Lib.encodeRuneZ_three (by omega)];rfl
  have HN : Hid ((Lib.encodeRune c).length = 3):=by show _ = _;rw [← zan,HE.out];rfl
  go_enter Tryz.func106,Tryz.ntmps106
  go_wp2_with (go_at_call 136;refine (zge _ _).mono ?_;rintro e w1 ⟨rfl,hw⟩;rw [hw];clear hw)
  go_ret
  exact ⟨_,rfl,zfn w _ _ _ HE.out HN.out (by decide),hb _⟩
 have d1 : (c).tdiv 262144 = c / 262144:=Int.tdiv_eq_ediv_of_nonneg (by omega)
 have d2 : (c).tdiv 4096 = c / 4096:=Int.tdiv_eq_ediv_of_nonneg (by omega)
 have d3 : (c).tdiv 64 = c / 64:=Int.tdiv_eq_ediv_of_nonneg (by omega)
 have m1 : (c).tmod 64 = c % 64:=Int.tmod_eq_emod_of_nonneg (by omega)
 have m2 : (c / 64).tmod 64 = c / 64 % 64:=Int.tmod_eq_emod_of_nonneg (by omega)
 have m3 : (c / 4096).tmod 64 = c / 4096 % 64:=Int.tmod_eq_emod_of_nonneg (by omega)
 have HE : Hid (zaz (Lib.encodeRune c) = [.int .u8 (240 + c / 262144),.int .u8 (128 + c / 4096 % 64),.int .u8 (128 + c / 64 % 64),.int .u8 (128 + c % 64)]):=by
  show _ = _
  rw [zdr,Lib.runeCells,Lib.encodeRuneZ_four (by omega) (by omega)];rfl
 have HN : Hid ((Lib.encodeRune c).length = 4):=by show _ = _;rw [← zan,HE.out];rfl
 go_enter Tryz.func106,Tryz.ntmps106
 go_wp2_with (go_at_call 136;refine (zge _ _).mono ?_;rintro e w1 ⟨rfl,hw⟩;rw [hw];clear hw)
 go_ret
 exact ⟨_,rfl,zfn w _ _ _ HE.out HN.out (by decide),hb _⟩
theorem zqs {c : Int} (h : Utf.right c = false) : Lib.encodeRune c = Lib.encodeRune 65533:=by
 rw [← Utf.zjl c]
 unfold Utf.mend
 rw [h]
 rfl
theorem zkg (c : Int) (w : World) :
  Calls Tryz.prog 106 #[.int .i32 c] w fun e w'=>∃ v',e = .returned v' ∧ zao w' w.heap.size v' (Lib.encodeRune c) ∧ Below w.heap.size w w':=by
 cases hc : Utf.right c
 ·have HE:=zqs hc
  rw [HE]
  go_enter Tryz.func106,Tryz.ntmps106
  go_wp2_with (first
   | (go_at_call 136;refine (zge _ _).mono ?_;rintro e w1 ⟨rfl,hw⟩;rw [hw];clear hw)
   | (go_at_call 106;refine (zja 65533 _ rfl).mono ?_;rintro e w2 ⟨v2,rfl,ho2,hb2⟩))
  go_ret
  exact ⟨_,rfl,ho2,hb2⟩
 ·exact zja c w hc
theorem zao.below {W W' : World} {B : Nat} {v : Value} {l : List UInt8} (h : zao W B v l) (hb : Below W.heap.size W W') : zao W' B v l:=by
 refine ⟨h.1,?_⟩
 rcases h.2 with h2 | ⟨g,cap,cur,h1,h2,h3,h4⟩
 ·exact .inl h2
 ·refine .inr ⟨g,cap,cur,h1,h2,?_,h4⟩
  rw [hb.block g (Array.getElem?_eq_some_iff.1 h3).1]
  exact h3
theorem zhQ {w : World} {B : Nat} {v : Value} {l : List UInt8} (h : zao w B v l) (hl : 1 ≤ l.length) :
  ∃ g cap,v = .slice (some ⟨g,0,none⟩) l.length cap ∧ ∀ (j : Nat) u,(zaz l)[j]? = some u → w.cell? ((⟨g,0,none⟩ : Addr).add j) = some u:=by
 have h0:=h
 rcases h.2 with ⟨rfl,hz⟩ | ⟨g,cap,cur,rfl,_,hg,hc,_,hcs,ht⟩
 ·omega
 ·refine ⟨g,cap,rfl,fun j u hj=>?_⟩
  have hlt : j < (zaz l).length:=(List.getElem?_eq_some_iff.1 hj).1
  rw [zan] at hlt
  have:=World.ownsRow.cellAt (w:=w) (base:=B) (e:=5) (size:=1) (g:=g) (cap:=cap) (n:=l.length) (xs:=zaz l) h0 j (by omega)
  rw [zbt,Nat.zero_add,this,hj]
theorem zgf {w : World} {B : Nat} {v : Value} {l m : List UInt8} (h : w.ownsRow B 5 1 v (l.length + m.length) (zaz l ++ zaz m)) : zao w B v (l ++ m):=by
 unfold zao
 rw [List.length_append]
 unfold zaz at *
 rw [List.map_append]
 exact h
theorem zqt (v u : Value) (l : List UInt8) (cs : List Int) (w : World) (hz : l.length ≤ 1000000000) (hy : cs.length ≤ 1000000000) (hv : zaZ w v (zaz l)) (hu : zaZ w u (zc6 cs)) :
  Calls Tryz.prog 80 #[v,u] w fun e w'=>∃ v',e = .returned v' ∧ zao w' w.heap.size v' (l ++ zgk cs) ∧ Below w.heap.size w w':=by
 obtain ⟨i0,hi,hz0,hz1,hz2⟩:=info_parts infoByte
 obtain ⟨ad,cp,rfl⟩ : ∃ ad cp,u = .slice ad cs.length cp:=by
  rcases hu with ⟨a,c,rfl,h0⟩ | ⟨b,o,c,rfl,_,_⟩
  ·exact ⟨a,c,by rw [← zaV,h0];rfl⟩
  ·exact ⟨_,c,by rw [zaV]⟩
 have HU : Hid (zaZ w (.slice ad cs.length cp) (zc6 cs)):=hu
 clear hu
 obtain ⟨ad2,c2,rfl⟩ : ∃ ad c,v = .slice ad l.length c:=by
  rcases hv with ⟨a,c,rfl,h0⟩ | ⟨b,o,c,rfl,_,_⟩
  ·exact ⟨a,c,by rw [← zan,h0];rfl⟩
  ·exact ⟨_,c,by rw [zan]⟩
 cases ad2 with
 | none =>
  have hl : l = []:=by
   rcases hv with ⟨a,c,h1,h0⟩ | ⟨b,o,c,h1,_,_⟩
   ·exact List.eq_nil_of_length_eq_zero (by rw [← zan,h0];rfl)
   ·cases h1
  subst hl
  go_enter Tryz.func80,Tryz.ntmps80
  go_wp2
  go_loopw [5,6] (fun x i wr=>∃ k : Nat,k ≤ cs.length ∧ i = .int .i64 k ∧ zao wr w.heap.size x ([] ++ zgk (cs.take k)) ∧ Below w.heap.size w wr) (fun _ i _=>cs.length - (intOf i).toNat)
  case atStart=>exact ⟨0,Nat.zero_le _,rfl,zao.nil _ _,Below.refl _ _⟩
  case round =>
   obtain ⟨k,hk,rfl,ho,hbw⟩:=hrel
   by_cases hlt : k < cs.length
   ·obtain ⟨c,hc⟩ : ∃ c,cs[k]? = some c:=⟨_,List.getElem?_eq_getElem hlt⟩
    have hpl:=zhu (cs.take k)
    rw [List.length_take] at hpl
    obtain ⟨b,o,rfl,hcp,hcell⟩ : ∃ b o,ad = some ⟨b,o,none⟩ ∧ cs.length ≤ cp ∧ w.cell? ⟨b,o + k,none⟩ = some (.int .i32 c):=by
     rcases HU.out with ⟨a,c',h1,h0⟩ | ⟨b,o,c',h1,h2,h3⟩
     ·have:=congrArg List.length h0
      rw [zaV,List.length_nil] at this
      omega
     ·rw [zaV] at h1 h2
      cases h1
      refine ⟨b,o,rfl,h2,h3 k _ ?_⟩
      unfold zc6
      rw [List.getElem?_map,hc]
      rfl
    have hcell2 : wr.cell? ⟨b,o + k,none⟩ = some (.int .i32 c):=(hbw.cell (p:=⟨b,o + k,none⟩) (zaK hcell)).trans hcell
    have HC : Hid (cs[k]? = some c):=hc
    have hsz:=hbw.size
    have he4:=Utf.zrn c
    clear hc hcell
    go_wp2_with (first
     | (go_at_call 106;refine (zkg _ _).mono ?_;rintro e w2 ⟨v2,rfl,ho2,hb2⟩;obtain ⟨g2,cap2,rfl,hr2⟩:=zhQ ho2 he4.2;have ho3:=ho.below hb2;have hsz2:=hb2.size)
     | (at_builtin;refine wpList_append_own _ rfl _ _ 78 rfl w.heap.size 5 i0 (.int .u8 0) 1 1 Tryz.underlying78 hi hz0 hz1 hz2 rfl (by decide) _ _ _ rfl ho3 ⟨g2,0,none⟩ _ cap2 (zaz (Lib.encodeRune c)) rfl (by rw [zan,Nat.mul_one]) hr2 (zdi _) (by rw [List.length_append];unfold maxLen;omega) (by rw [List.length_append];omega) (by omega) ?_;intro v3 w3 ho4 hg3 _))
    have hb3 : Below w.heap.size w w3:=(bel hbw hb2).grown hg3 (by omega) (fun k hk=>(World.ownsRow.lt ho3 k hk).1)
    go_roundw
    case rel =>
     refine ⟨k + 1,by omega,by go_num,?_,hb3⟩
     rw [zd6 cs k c HC.out,← List.append_assoc]
     exact zgf ho4
    case measure=>simp [intOf];omega
   ·have hkk : k = cs.length:=by omega
    have ho2 : Hid (zao wr w.heap.size u5 ([] ++ zgk cs)):=by
     have:=ho
     rw [hkk,List.take_length] at this
     exact this
    go_wp2
    go_ret
    exact ⟨_,rfl,ho2.out,hbw⟩
 | some ad2 =>
  have hr : ∀ j u,(zaz l)[j]? = some u → w.cell? (ad2.add j) = some u:=by
   intro j u hj
   rcases hv with ⟨a,c,h1,h0⟩ | ⟨b,o,c,h1,_,h3⟩
   ·rw [h0] at hj;simp at hj
   ·rw [zan] at h1
    cases h1
    rw [zbt]
    exact h3 j u hj
  clear hv
  have hnil : w.ownsRow w.heap.size 5 1 (.slice none 0 0) 0 []:=World.ownsRow_nil _ _ _ _
  go_enter Tryz.func80,Tryz.ntmps80
  go_wp2_with (at_builtin;refine wpList_append_own _ rfl _ _ 78 rfl w.heap.size 5 i0 (.int .u8 0) 1 1 Tryz.underlying78 hi hz0 hz1 hz2 rfl (by decide) _ _ _ rfl hnil ad2 l.length c2 (zaz l) rfl (by rw [zan,Nat.mul_one]) hr (zdi l) (by unfold maxLen;omega) (by omega) (Nat.le_refl _) ?_)
  intro v1 w1 ho1 hg1 _
  have hb1 : Below w.heap.size w w1:=(Below.refl _ w).grown hg1 (Nat.le_refl _) (fun k hk=>by cases hk)
  have ho1' : zao w1 w.heap.size v1 (l ++ zgk (cs.take 0)):=by
   unfold zao
   simpa [zgk] using ho1
  go_wp2
  go_loopw [5,6] (fun x i wr=>∃ k : Nat,k ≤ cs.length ∧ i = .int .i64 k ∧ zao wr w.heap.size x (l ++ zgk (cs.take k)) ∧ Below w.heap.size w wr) (fun _ i _=>cs.length - (intOf i).toNat)
  case atStart=>exact ⟨0,Nat.zero_le _,rfl,ho1',hb1⟩
  case round =>
   obtain ⟨k,hk,rfl,ho,hbw⟩:=hrel
   by_cases hlt : k < cs.length
   ·obtain ⟨c,hc⟩ : ∃ c,cs[k]? = some c:=⟨_,List.getElem?_eq_getElem hlt⟩
    have hpl:=zhu (cs.take k)
    rw [List.length_take] at hpl
    obtain ⟨b,o,rfl,hcp,hcell⟩ : ∃ b o,ad = some ⟨b,o,none⟩ ∧ cs.length ≤ cp ∧ w.cell? ⟨b,o + k,none⟩ = some (.int .i32 c):=by
     rcases HU.out with ⟨a,c',h1,h0⟩ | ⟨b,o,c',h1,h2,h3⟩
     ·have:=congrArg List.length h0
      rw [zaV,List.length_nil] at this
      omega
     ·rw [zaV] at h1 h2
      cases h1
      refine ⟨b,o,rfl,h2,h3 k _ ?_⟩
      unfold zc6
      rw [List.getElem?_map,hc]
      rfl
    have hcell2 : wr.cell? ⟨b,o + k,none⟩ = some (.int .i32 c):=(hbw.cell (p:=⟨b,o + k,none⟩) (zaK hcell)).trans hcell
    have HC : Hid (cs[k]? = some c):=hc
    have hsz:=hbw.size
    have he4:=Utf.zrn c
    clear hc hcell
    go_wp2_with (first
     | (go_at_call 106;refine (zkg _ _).mono ?_;rintro e w2 ⟨v2,rfl,ho2,hb2⟩;obtain ⟨g2,cap2,rfl,hr2⟩:=zhQ ho2 he4.2;have ho3:=ho.below hb2;have hsz2:=hb2.size)
     | (at_builtin;refine wpList_append_own _ rfl _ _ 78 rfl w.heap.size 5 i0 (.int .u8 0) 1 1 Tryz.underlying78 hi hz0 hz1 hz2 rfl (by decide) _ _ _ rfl ho3 ⟨g2,0,none⟩ _ cap2 (zaz (Lib.encodeRune c)) rfl (by rw [zan,Nat.mul_one]) hr2 (zdi _) (by rw [List.length_append];unfold maxLen;omega) (by rw [List.length_append];omega) (by omega) ?_;intro v3 w3 ho4 hg3 _))
    have hb3 : Below w.heap.size w w3:=(bel hbw hb2).grown hg3 (by omega) (fun k hk=>(World.ownsRow.lt ho3 k hk).1)
    go_roundw
    case rel =>
     refine ⟨k + 1,by omega,by go_num,?_,hb3⟩
     rw [zd6 cs k c HC.out,← List.append_assoc]
     exact zgf ho4
    case measure=>simp [intOf];omega
   ·have hkk : k = cs.length:=by omega
    have ho2 : Hid (zao wr w.heap.size u5 (l ++ zgk cs)):=by
     have:=ho
     rw [hkk,List.take_length] at this
     exact this
    go_wp2
    go_ret
    exact ⟨_,rfl,ho2.out,hbw⟩
end Go.Proofs.YtiodaahncadodaaGreatDoor
