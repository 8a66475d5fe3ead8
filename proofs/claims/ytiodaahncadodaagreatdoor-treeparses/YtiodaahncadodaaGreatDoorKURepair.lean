/- The contract of utf.Repair: a builder written in a range over the bytes. -/
import Derived.Test.YtiodaahncadodaaGreatDoorKUText
import Derived.Test.YtiodaahncadodaaGreatDoorKUBY
set_option maxRecDepth 100000
set_option maxHeartbeats 2000000
namespace Go.Proofs.YtiodaahncadodaaGreatDoor
open Go.RowKit
theorem zhy {T e : TypeId} {B b : Nat} {bs : List Value} {w : World} (n : Nat) (h : Lib.IsBuilderF T e B b bs w) : Lib.IsBuilderF T e B b bs (w.drewN n):=by
 unfold Lib.IsBuilderF Lib.BuilderAtF World.ownsRowF at *
 simpa using h
theorem zfI {B : Nat} {w w' : World} (n : Nat) (h : Below B w w') : Below B w (w'.drewN n) :=
 ⟨h.os,h.tape,h.output,by simpa using h.size,by simpa using h.block⟩
theorem zlE (l : List UInt8) (w : World) (hz : l.length ≤ 1000000000) :
  Calls Tryz.prog 82 #[.string (str l)] w fun e w'=>e = .returned (.string (str (Utf.rep l))) ∧ Below w.heap.size w w':=by
 have hsz:=zad l
 go_enter Tryz.func82,Tryz.ntmps82
 go_wp2
 go_loopw [4] (fun e wr=>∃ (k en : Nat) (acc : List UInt8),k ≤ l.length ∧ en ≤ l.length ∧ e = .int .i64 en ∧ Lib.IsBuilderF 80 5 w.heap.size w.heap.size (Lib.byteCells acc) wr ∧ wr.heap[w.heap.size + 1]? = some (.stringIter (str l) k) ∧ Below w.heap.size w wr ∧ Hid (acc ++ Utf.rep (l.drop (max k en)) = Utf.rep l) ∧ Hid (∀ j,k ≤ j → j < en → 128 ≤ Utf.at' l j ∧ Utf.at' l j ≤ 191) ∧ acc.length ≤ 4 * k) (fun _ wr=>l.length - wr.iterPos (w.heap.size + 1))
 case atStart =>
  refine ⟨0,0,[],Nat.zero_le _,Nat.zero_le _,rfl,(Lib.IsBuilderF.of (Lib.fresh_isBuilder 80 5 w)).alloc _,?_,((Below.refl _ w).alloc (Nat.le_refl _) _).alloc (by simp) _,rfl,?_,by simp⟩
  ·have:=World.iter_heap (w.alloc (.cells #[.pointer none,.slice none 0 0] 80)) (str l) 0
   simpa using this
  ·intro j _ h;omega
 case round =>
  obtain ⟨k,en,acc,hk,hen,rfl,hI,hit,hbw,HE,HC,hal⟩:=hrel
  by_cases hlt : k < l.length
  ·have hne:=znk hlt
   have hst:=Utf.dec_step (l.drop k) hne
   have hpl:=Utf.zko (l.drop k) hne
   rw [List.length_drop] at hpl
   have hsz1 : w.heap.size + 1 < wr.heap.size:=(Array.getElem?_eq_some_iff.1 hit).1
   have hnx:=zpz l wr (w.heap.size + 1) k hit hlt
   have hI2:=hI.iterAt hit (k + (Utf.dec (l.drop k)).2)
   have hit2:=Lib.iterAt_heap wr (w.heap.size + 1) (str l) k (k + (Utf.dec (l.drop k)).2) hit
   have hbw2:=Lib.below_iterAt hbw (k:=w.heap.size + 1) (by omega) (str l) (k + (Utf.dec (l.drop k)).2)
   have hsz2 : w.heap.size ≤ (wr.iterAt (w.heap.size + 1) (str l) (k + (Utf.dec (l.drop k)).2)).heap.size:=by rw [Lib.iterAt_size];omega
   have hext : (str l).extract k l.length = str (l.drop k):=zax l k
   by_cases hin : k < en
   ·have HD : Hid (Utf.dec (l.drop k) = (65533,1)):=by
     refine Utf.dec_cont _ ?_
     rw [Utf.at_drop]
     exact HC.out k (Nat.le_refl _) hin
    go_wp2
    go_roundw
    case rel =>
     refine ⟨k + (Utf.dec (l.drop k)).2,en,acc,by omega,hen,rfl,hI2,hit2,hbw2,?_,?_,by omega⟩
     ·show _ = _
      rw [HD.out,show max (k + 1) en = max k en by omega];exact HE.out
     ·intro j hj hj2
      exact HC.out j (by omega) hj2
    case measure=>simp only [World.iterPos,hit2,hit];omega
   ·have hright:=Utf.right_lt (Utf.dec_right _ hne)
    have HR : Hid (acc ++ Lib.encodeRune (Utf.dec (l.drop k)).1 ++ Utf.rep (l.drop (k + (Utf.zbs (l.drop k)).1)) = Utf.rep l):=by
     show _ = _
     rw [← HE.out,show max k en = k by omega,Utf.zqH _ hne,List.drop_drop,List.append_assoc]
    have hl4:=Utf.zrn ((Utf.dec (l.drop k)).1 : Int)
    by_cases hc : (Utf.dec (l.drop k)).1 = 65533
    ·have hq : (((Utf.dec (l.drop k)).1 : Int) == 65533) = true:=by rw [hc];rfl
     have hc2 : Hid ((Utf.dec (l.drop k)).1 = 65533):=hc
     clear hc
     go_wp2_with (first
      | (go_at_call 116;refine (zpy _ (l.drop k) (zam _) hne _ (by rw [zad,List.length_drop];omega)).mono ?_;rintro e w1 ⟨rfl,n1,rfl⟩)
      | (go_at_call 117;refine (zfH w.heap.size w.heap.size _ _ (by omega) (by omega) _ (zhy _ hI2) (by rw [Lib.byteCells_length];omega) hsz2).mono ?_;rintro e W1 ⟨rfl,h1,b1,k1⟩))
     have hit3:=k1.iter (k:=w.heap.size + 1) (by simpa using hit2) (by omega)
     go_roundw
     case rel =>
      refine ⟨k + (Utf.dec (l.drop k)).2,k + (Utf.zbs (l.drop k)).1,acc ++ Lib.encodeRune (Utf.dec (l.drop k)).1,by omega,by omega,by go_num,?_,hit3,(zfI n1 hbw2).trans b1,?_,?_,by rw [List.length_append];omega⟩
      ·rw [Lib.byteCells_append,Lib.byteCells_encodeRune];exact Or.inr h1
      ·show _ = _
       rw [show max (k + (Utf.dec (l.drop k)).2) (k + (Utf.zbs (l.drop k)).1) = k + (Utf.zbs (l.drop k)).1 by omega]
       exact HR.out
      ·intro j hj hj2
       have:=Utf.zh6 (l.drop k) (j - k) (by omega) (by omega)
       rw [Utf.at_drop,show k + (j - k) = j by omega] at this
       exact this
     case measure=>simp only [World.iterPos,hit3,hit];omega
    ·have hq : (((Utf.dec (l.drop k)).1 : Int) == 65533) = false:=by rw [beq_eq_false_iff_ne];omega
     have HS : Hid ((Utf.dec (l.drop k)).2 = (Utf.zbs (l.drop k)).1):=Utf.zmr _ hne (Utf.zro _ hne hc)
     clear hc
     go_wp2_with (go_at_call 117;refine (zfH w.heap.size w.heap.size _ _ (by omega) (by omega) _ hI2 (by rw [Lib.byteCells_length];omega) hsz2).mono ?_;rintro e W1 ⟨rfl,h1,b1,k1⟩)
     have hit3:=k1.iter (k:=w.heap.size + 1) hit2 (by omega)
     go_roundw
     case rel =>
      refine ⟨k + (Utf.dec (l.drop k)).2,en,acc ++ Lib.encodeRune (Utf.dec (l.drop k)).1,by omega,hen,rfl,?_,hit3,hbw2.trans b1,?_,?_,by rw [List.length_append];omega⟩
      ·rw [Lib.byteCells_append,Lib.byteCells_encodeRune];exact Or.inr h1
      ·show _ = _
       rw [show max (k + (Utf.dec (l.drop k)).2) en = k + (Utf.dec (l.drop k)).2 by omega,HS.out]
       exact HR.out
      ·intro j hj hj2
       omega
     case measure=>simp only [World.iterPos,hit3,hit];omega
  ·have hnx:=zpA l wr (w.heap.size + 1) k hit hlt
   have HN : Hid (acc = Utf.rep l):=by
    show _ = _
    have:=HE.out
    rw [List.drop_of_length_le (by omega),Utf.zmt,List.append_nil] at this
    exact this
   have hsz1 : w.heap.size + 1 < wr.heap.size:=(Array.getElem?_eq_some_iff.1 hit).1
   go_wp2_with (go_at_call 43;refine (Tryz.Builder_String_any_k w.heap.size w.heap.size acc _ hI (by omega)).mono ?_;rintro e W1 ⟨rfl,_,b1,_⟩)
   go_ret
   exact ⟨by rw [← HN.out];rfl,hbw.trans b1⟩
end Go.Proofs.YtiodaahncadodaaGreatDoor
