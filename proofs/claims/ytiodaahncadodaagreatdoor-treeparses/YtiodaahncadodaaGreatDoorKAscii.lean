/- Texts laid as one. -/
import Derived.Test.YtiodaahncadodaaGreatDoorKGround
import Derived.Laws.IdiomStrings
import Derived.Laws.OwnMore
import Derived.Test.YtiodaahncadodaaGreatDoorKMath
set_option maxRecDepth 100000
set_option maxHeartbeats 1000000
namespace Go.Proofs.YtiodaahncadodaaGreatDoor
open Go.RowKit
theorem zao.of {w : World} {B : Nat} {v : Value} {l m : List UInt8} {c : UInt8} {x : Int} (h : m = l ++ [c]) (hx : x = (c.toNat : Int)) (ho : w.ownsRow B 5 1 v (l.length + 1) (zaz l ++ [.int .u8 x])) : zao w B v m:=by
 subst h;subst hx
 unfold zao zaz at *
 simpa using ho
theorem zlq (n : Nat) : (madeCells (Value.int .u8 0).cells (n * 1)).toList = zaz (List.replicate n 0):=by
 unfold madeCells zaz
 rw [Nat.mul_one,List.map_replicate]
 apply List.ext_getElem
 ·simp
 ·intro i h1 h2
  simp [Value.cells,Nat.mod_one]
theorem zpu (a : List UInt8) (c : UInt8) (m : Nat) : (zaz (a ++ List.replicate (m + 1) 0)).set a.length (.int .u8 c.toNat) = zaz (a ++ [c] ++ List.replicate m 0):=by
 unfold zaz
 rw [List.map_append,List.set_append_right _ _ (by simp)]
 simp [List.replicate_succ]
theorem zm6 (a : List UInt8) (m : Nat) : (zaz (a ++ List.replicate (m + 1) 0))[a.length]? = some (.int .u8 0):=by
 unfold zaz
 rw [List.map_append,List.getElem?_append_right (by simp)]
 simp [List.replicate_succ]
def zgr (s : ByteArray) (k : Nat) : List UInt8:=Asc.zbJ (s.data.toList.take k) ++ List.replicate (s.size - k) 0
theorem zd3 (s : ByteArray) (k : Nat) (h : k ≤ s.size) : (Asc.zbJ (s.data.toList.take k)).length = k:=by
 unfold Asc.zbJ
 rw [List.length_map,List.length_take,← zfu]
 omega
theorem zlr (s : ByteArray) (k : Nat) (h : k < s.size) : (zaz (zgr s k)).set k (.int .u8 (Asc.zbX s[k]).toNat) = zaz (zgr s (k + 1)):=by
 have e:=zpu (Asc.zbJ (s.data.toList.take k)) (Asc.zbX s[k]) (s.size - (k + 1))
 rw [zd3 s k (by omega),show s.size - (k + 1) + 1 = s.size - k from by omega] at e
 unfold zgr
 rw [e,List.take_succ_eq_append_getElem (show k < s.data.toList.length from by rw [← zfu];exact h),Asc.lower_snoc]
 rfl
theorem zls (s : ByteArray) (k : Nat) (h : k < s.size) : (zaz (zgr s k))[k]? = some (.int .u8 0):=by
 have e:=zm6 (Asc.zbJ (s.data.toList.take k)) (s.size - (k + 1))
 rw [zd3 s k (by omega),show s.size - (k + 1) + 1 = s.size - k from by omega] at e
 exact e
theorem zm7 (s : ByteArray) (k : Nat) (h : k ≤ s.size) : (zgr s k).length = s.size:=by
 unfold zgr
 rw [List.length_append,zd3 s k h,List.length_replicate]
 omega
theorem zm8 (s : ByteArray) (k : Nat) (h : k ≤ s.size) (h2 : ¬ k < s.size) : zgr s k = Asc.zbJ s.data.toList:=by
 unfold zgr
 rw [zb8 s k (by omega),show s.size - k = 0 from by omega]
 simp
theorem zie (s : ByteArray) (w : World) (hs : s.size ≤ 1000000000) :
  Calls Tryz.prog 154 #[.string s] w fun e w'=>e = .returned (.string (str (Asc.zbJ s.data.toList))) ∧ Below w.heap.size w w':=by
 obtain ⟨i0,hi,hz0,hz1,hz2⟩:=info_parts infoByte
 go_enter Tryz.func154,Tryz.ntmps154
 go_wp2_with (first
  | (at_make;refine wpList_make_full _ rfl (.tmp 6) (.tmp 6) 78 rfl w.heap.size 5 i0 (.int .u8 0) 1 Tryz.underlying78 hi hz0 hz1 _ _ _ _ s.size rfl rfl rfl rfl (by rw [hz2];omega) (by unfold maxLen;omega) (Nat.le_refl _) ?_;intro w1 hown1 hgrow1))
 go_loopw [10] (fun i wr=>∃ k : Nat,k ≤ s.size ∧ i = .int .i64 k ∧ wr.ownsRow w.heap.size 5 1 (.slice (some ⟨w.heap.size,0,none⟩) s.size s.size) s.size (zaz (zgr s k)) ∧ Below w.heap.size w wr) (fun i _=>s.size - (intOf i).toNat)
 case atStart =>
  refine ⟨0,Nat.zero_le _,rfl,?_,(Below.refl _ _).grown hgrow1 (Nat.le_refl _) (by simp)⟩
  rw [zlq] at hown1
  exact hown1
 case round =>
  obtain ⟨k,hk,rfl,hown,hbel⟩:=hrel
  by_cases hlt : k < s.size
  ·have hc : wr.cell? ⟨w.heap.size,k,none⟩ = some (.int .u8 0):=(World.ownsRow.cellAt (w:=wr) hown k (by omega)).trans (zls s k hlt)
   have hf:=World.ownsRow.frozenAt (w:=wr) hown k
   have hst:=World.ownsRow.stored (w:=wr) hown k (.int .u8 (Asc.zbX s[k]).toNat)
   rw [zlr s k hlt] at hst
   have HS:=show Hid _ from hst
   clear hst hown
   go_wp2_with (first
    | (go_at_call 175;refine (zcI _ _).mono ?_;rintro e w2 ⟨rfl,hw⟩;rw [hw];clear hw))
   go_roundw
   case rel=>exact ⟨k + 1,by omega,by go_num,HS.out.1,hbel.setCell (Nat.le_refl _) _⟩
   case measure=>simp [intOf];omega
  ·have hown2 : zao wr w.heap.size (.slice (some ⟨w.heap.size,0,none⟩) s.size s.size) (zgr s k):=by
    unfold zao
    rw [zm7 s k hk]
    exact hown
   have hcv:=zcB hown2
   rw [zm8 s k hk hlt] at hcv
   clear hown hown2
   go_wp2
   go_ret
   exact ⟨rfl,hbel⟩
theorem zeA (s : ByteArray) (w : World) (hs : s.size ≤ 1000000000) :
  Calls Tryz.prog 107 #[.string s] w fun e w'=>e = .returned (.string (str (Asc.zbJ s.data.toList))) ∧ Below w.heap.size w w':=by
 obtain ⟨i0,hi,hz0,hz1,hz2⟩:=info_parts infoByte
 go_enter Tryz.func107,Tryz.ntmps107
 go_wp2
 go_loopw [3,4] (fun v i wr=>∃ k : Nat,k ≤ s.size ∧ i = .int .i64 k ∧ zao wr w.heap.size v (Asc.zbJ (s.data.toList.take k)) ∧ Below w.heap.size w wr) (fun _ i _=>s.size - (intOf i).toNat)
 case atStart=>exact ⟨0,Nat.zero_le _,rfl,zao.nil _ _,Below.refl _ _⟩
 case round =>
  obtain ⟨k,hk,rfl,hown,hbel⟩:=hrel
  by_cases hlt : k < s.size
  ·have hll:=zd3 s k hk
   have HL : Hid ((Asc.zbJ (s.data.toList.take k)).length = k):=hll
   have hlo : (Asc.zbJ (s.data.toList.take k)).length ≤ 1000000000:=by omega
   clear hll
   have hbd:=zcY s[k]
   obtain ⟨hb0,hb1⟩:=hbd
   have HN : Hid (Asc.zbJ (s.data.toList.take (k + 1)) = Asc.zbJ (s.data.toList.take k) ++ [Asc.zbX s[k]]):=by
    show _ = _
    rw [List.take_succ_eq_append_getElem (show k < s.data.toList.length from by rw [← zfu];exact hlt),Asc.lower_snoc]
    rfl
   rcases (show (65 ≤ (s[k].toNat : Int) ∧ (s[k].toNat : Int) ≤ 90) ∨ (s[k].toNat : Int) < 65 ∨ 90 < (s[k].toNat : Int) from by omega) with ⟨ha,hb⟩ | ha | ha
   ·have HV : Hid ((s[k].toNat : Int) + 32 = ((Asc.zbX s[k]).toNat : Int)):=by
     show _ = _
     rw [← Asc.lowN_byte,Asc.zhg,if_pos ⟨ha,hb⟩]
    go_wp2_with (first
     | (at_builtin;refine wpList_append_own _ rfl _ _ 78 rfl w.heap.size 5 i0 (.int .u8 0) 1 1 Tryz.underlying78 hi hz0 hz1 hz2 rfl (by decide) _ _ _ rfl (World.ownsRow.alloc hown _) ⟨wr.heap.size,0,none⟩ 1 1 [.int .u8 ((s[k].toNat : Int) + 32)] rfl rfl (cell_one_new _ _ _) (fun x hx=>by simp at hx;subst hx;rfl) (by unfold maxLen;omega) (by omega) (by have:=hbel.size;simp;omega) ?_;intro v' w3 hown' hgrow3 hnil3))
    go_roundw
    case rel=>exact ⟨k + 1,by omega,by go_num,zao.of HN.out HV.out hown',(hbel.alloc hbel.size _).grown hgrow3 (by have:=hbel.size;simp;omega) (fun q hq=>(World.ownsRow.lt hown q hq).1)⟩
    case measure=>simp [intOf];omega
   all_goals
    have HV : Hid ((s[k].toNat : Int) = ((Asc.zbX s[k]).toNat : Int)):=by
     show _ = _
     rw [← Asc.lowN_byte,Asc.zhg,if_neg (by omega)]
    go_wp2_with (first
     | (at_builtin;refine wpList_append_own _ rfl _ _ 78 rfl w.heap.size 5 i0 (.int .u8 0) 1 1 Tryz.underlying78 hi hz0 hz1 hz2 rfl (by decide) _ _ _ rfl (World.ownsRow.alloc hown _) ⟨wr.heap.size,0,none⟩ 1 1 [.int .u8 (s[k].toNat : Int)] rfl rfl (cell_one_new _ _ _) (fun x hx=>by simp at hx;subst hx;rfl) (by unfold maxLen;omega) (by omega) (by have:=hbel.size;simp;omega) ?_;intro v' w3 hown' hgrow3 hnil3))
    go_roundw
    case rel=>exact ⟨k + 1,by omega,by go_num,zao.of HN.out HV.out hown',(hbel.alloc hbel.size _).grown hgrow3 (by have:=hbel.size;simp;omega) (fun q hq=>(World.ownsRow.lt hown q hq).1)⟩
    case measure=>simp [intOf];omega
  ·have hcv:=zcB hown
   rw [zb8 s k (by omega)] at hcv
   clear hown
   go_wp2
   go_ret
   exact ⟨rfl,hbel⟩
theorem zfA (c : UInt8) (w : World) :
  Calls Tryz.prog 188 #[.int .u8 c.toNat] w fun e w'=>e = .returned (.bool (Asc.zhj (Asc.bt c))) ∧ w' = w:=zh8 _ _
theorem zc4 (s : ByteArray) (w : World) (hs : s.size ≤ 1000000000) :
  Calls Tryz.prog 202 #[.string s] w fun e w'=>e = .returned (.bool (Asc.zcA s.data.toList)) ∧ w' = w:=by
 go_enter Tryz.func202,Tryz.ntmps202
 go_wp2
 go_loop [6] (fun i=>∃ k : Nat,k ≤ s.size ∧ i = .int .i64 k ∧ Hid (Asc.zdx (s.data.toList.take k) = true)) (fun i=>s.size - (intOf i).toNat)
 case atStart=>exact ⟨0,Nat.zero_le _,rfl,rfl⟩
 case round =>
  obtain ⟨k,hk,rfl,HE⟩:=hrel
  by_cases hlt : k < s.size
  ·cases hx : Asc.zhj (Asc.bt s[k])
   ·have HN : Hid (Asc.zcA s.data.toList = false):=by
     show _ = _
     unfold Asc.zcA
     rw [Asc.allDig_not s.data.toList k hlt hx]
     rfl
    go_wp2_with (first
     | (go_at_call 188;refine (zfA _ _).mono ?_;rintro e w1 ⟨rfl,hw⟩;rw [hw];clear hw))
    go_ret
    exact ⟨zac HN.out.symm,rfl⟩
   ·have HN : Hid (Asc.zdx (s.data.toList.take (k + 1)) = true):=by
     show _ = _
     rw [Asc.zrt s.data.toList k hlt,HE.out,Bool.true_and]
     exact hx
    go_wp2_with (first
     | (go_at_call 188;refine (zfA _ _).mono ?_;rintro e w1 ⟨rfl,hw⟩;rw [hw];clear hw))
    go_round
    case rel=>exact ⟨k + 1,by omega,by go_num,HN⟩
    case measure=>simp [intOf];omega
  ·have HN : Hid (Asc.zdx s.data.toList = true):=by
    have:=HE.out
    rwa [zb8 s k (by omega)] at this
   go_wp2
   go_ret
   exact ⟨zac (by unfold Asc.zcA;rw [HN.out,ByteArray.toList_eq];rfl),rfl⟩
theorem zlt (s : ByteArray) (most : Int) (w : World) (hs : s.size ≤ 1000000000) (hm1 : most ≤ 9223372036854775807) :
  Calls Tryz.prog 199 #[.string s,.int .i64 most] w fun e w'=>e = .returned (.tuple #[.int .i64 (Asc.zdW s.data.toList most),.int .i64 (Asc.zdX s.data.toList most)]) ∧ w' = w:=by
 cases hx : (Asc.zcA s.data.toList)
 ·have HN : Hid (Asc.zdW s.data.toList most = 0 ∧ Asc.zdX s.data.toList most = 3):=Asc.num_form _ _ hx
  go_enter Tryz.func199,Tryz.ntmps199
  go_wp2_with (first
   | (go_at_call 202;refine (zc4 s _ hs).mono ?_;rintro e w1 ⟨rfl,hw⟩;rw [hw];clear hw))
  go_ret2
  exact ⟨zbo (by rw [HN.out.1];rfl) (by rw [HN.out.2];rfl),rfl⟩
 ·by_cases hm : most < 0
  ·have HN : Hid (Asc.zdW s.data.toList most = 0 ∧ Asc.zdX s.data.toList most = 5):=Asc.num_neg _ _ hx hm
   go_enter Tryz.func199,Tryz.ntmps199
   go_wp2_with (first
    | (go_at_call 202;refine (zc4 s _ hs).mono ?_;rintro e w1 ⟨rfl,hw⟩;rw [hw];clear hw))
   go_ret2
   exact ⟨zbo (by rw [HN.out.1];rfl) (by rw [HN.out.2];rfl),rfl⟩
  ·have hm0 : 0 ≤ most:=by omega
   have HX : Hid (Asc.zcA s.data.toList = true):=hx
   clear hm
   go_enter Tryz.func199,Tryz.ntmps199
   go_wp2_with (first
    | (go_at_call 202;refine (zc4 s _ hs).mono ?_;rintro e w1 ⟨rfl,hw⟩;rw [hw];clear hw))
   clear hx
   go_loop [6,16] (fun m i=>∃ (k : Nat) (n : Int),k ≤ s.size ∧ i = .int .i64 k ∧ m = .int .i64 n ∧ 0 ≤ n ∧ n ≤ most ∧ Hid (Asc.zbE most n (s.data.toList.drop k) = Asc.zbE most 0 s.data.toList)) (fun _ i=>s.size - (intOf i).toNat)
   case atStart=>exact ⟨0,0,Nat.zero_le _,rfl,rfl,by omega,hm0,rfl⟩
   case round =>
    obtain ⟨k,n,hk,rfl,rfl,hn0,hn1,HE⟩:=hrel
    by_cases hlt : k < s.size
    ·have hd:=Asc.allDig_at s.data.toList k hlt (Asc.zru _ HX.out)
     have hd0 : (48 : Int) ≤ (s[k].toNat : Int):=hd.1
     have hd1 : (s[k].toNat : Int) ≤ 57:=hd.2
     clear hd
     have HS : Hid (most < n * 10 + ((s[k].toNat : Int) - 48) → Asc.zdW s.data.toList most = 0 ∧ Asc.zdX s.data.toList most = 5):=fun h=>Asc.zpe _ most HX.out hm0 (by rw [← HE.out];exact Asc.zqQ most _ k n hlt h)
     have HN : Hid (¬ most < n * 10 + ((s[k].toNat : Int) - 48) → Asc.zbE most (n * 10 + ((s[k].toNat : Int) - 48)) (s.data.toList.drop (k + 1)) = Asc.zbE most 0 s.data.toList):=fun h=>by
      rw [← HE.out]
      exact (Asc.zqP most _ k n hlt h).symm
     rcases (show most / 10 < n ∨ n < most / 10 ∨ n = most / 10 from by omega) with hc | hc | hc
     ·go_wp2
      go_ret2
      have h:=HS.out (by omega)
      exact ⟨zbo (by rw [h.1];rfl) (by rw [h.2];rfl),rfl⟩
     ·have hq : (n == most / 10) = false:=by rw [beq_eq_false_iff_ne];omega
      go_wp2
      go_round
      case rel=>exact ⟨k + 1,n * 10 + ((s[k].toNat : Int) - 48),by omega,by go_num,rfl,by omega,by omega,HN.out (by omega)⟩
      case measure=>simp [intOf];omega
     ·have hq : (n == most / 10) = true:=by rw [beq_iff_eq];exact hc
      have HQ : Hid (n = most / 10):=hc
      have hn9 : n * 10 ≤ most:=by omega
      clear hc
      by_cases hr : most % 10 < (s[k].toNat : Int) - 48
      ·go_wp2
       go_ret2
       have h:=HS.out (by have:=HQ.out;omega)
       exact ⟨zbo (by rw [h.1];rfl) (by rw [h.2];rfl),rfl⟩
      ·have hn8 : n * 10 + ((s[k].toNat : Int) - 48) ≤ most:=by have:=HQ.out;omega
       go_wp2
       go_round
       case rel=>exact ⟨k + 1,n * 10 + ((s[k].toNat : Int) - 48),by omega,by go_num,rfl,by omega,by omega,HN.out (by omega)⟩
       case measure=>simp [intOf];omega
    ·have HN : Hid (Asc.zdW s.data.toList most = n ∧ Asc.zdX s.data.toList most = 0):=Asc.num_ok _ most n HX.out hm0 (by rw [← HE.out];exact Asc.zrs most _ k n (by simpa using Nat.le_of_not_lt hlt))
     go_wp2
     go_ret2
     exact ⟨zbo (by rw [HN.out.1];rfl) (by rw [HN.out.2];rfl),rfl⟩
end Go.Proofs.YtiodaahncadodaaGreatDoor
