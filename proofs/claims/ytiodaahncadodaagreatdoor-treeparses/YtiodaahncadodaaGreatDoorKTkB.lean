/- A reader of package token in memory, and the contracts of its small methods: take, took, past, while. -/
import Derived.Test.YtiodaahncadodaaGreatDoorKTkA
import Derived.Test.YtiodaahncadodaaGreatDoorKRfEF
import Derived.Lib.Builder
import Derived.Lib.SmallJoins
set_option maxHeartbeats 1000000
set_option linter.unusedVariables false
set_option linter.unusedSimpArgs false
namespace Go.Proofs.YtiodaahncadodaaGreatDoor
open Go.RowKit
structure zby (b : Nat) (w w' : World) : Prop where
 os : w'.os = w.os
 tape : w'.tape = w.tape
 output : w'.output = w.output
 size : w.heap.size ≤ w'.heap.size
 block : ∀ k,k < w.heap.size → k ≠ b → w'.heap[k]? = w.heap[k]?
theorem zby.refl (b : Nat) (w : World) : zby b w w:=⟨rfl,rfl,rfl,Nat.le_refl _,fun _ _ _=>rfl⟩
theorem zby.trans {b : Nat} {a c d : World} (h : zby b a c) (k : zby b c d) : zby b a d :=
 ⟨k.os.trans h.os,k.tape.trans h.tape,k.output.trans h.output,Nat.le_trans h.size k.size,fun i hi hb=>(k.block i (Nat.lt_of_lt_of_le hi h.size) hb).trans (h.block i hi hb)⟩
theorem zby.of {b : Nat} {w w' : World} (h : Below w.heap.size w w') : zby b w w':=⟨h.os,h.tape,h.output,h.size,fun k hk _=>h.block k hk⟩
theorem zby.set (b o : Nat) (w : World) (v : Value) : zby b w (w.setCell ⟨b,o,none⟩ v):=by
 have h:=(Below.refl 0 w).setCell (p:=⟨b,o,none⟩) (Nat.zero_le _) v
 exact ⟨h.os,h.tape,h.output,h.size,fun k _ hb=>Below.heap_setCell _ _ _ _ hb⟩
theorem zby.below {b : Nat} {w w' : World} (h : zby b w w') (B : Nat) (h1 : B ≤ b) (h2 : B ≤ w.heap.size) : Below B w w' :=
 ⟨h.os,h.tape,h.output,h.size,fun k hk=>h.block k (by omega) (by omega)⟩
theorem zby.drewN {b : Nat} {w w' : World} (n : Nat) (h : zby b w w') : zby b w (w'.drewN n):=⟨h.os,h.tape,h.output,h.size,h.block⟩
theorem zby.drew {b : Nat} {w w' : World} (h : zby b w w') : zby b w w'.drew:=⟨h.os,h.tape,h.output,h.size,h.block⟩
def MaxL (w : World) : Prop:=∃ m : Int,w.cell? ⟨0,0,none⟩ = some (.int .i64 m)
def zh2 (w : World) : Prop:=Win w ∧ MaxL w
theorem zh2.belowB {w w' : World} {B : Nat} (h : zh2 w) (hb : Below B w w') (h1 : 3 < B) (h2 : 0 < B) : zh2 w':=by
 refine ⟨var?_below hb gWin h1 h.1,?_⟩
 obtain ⟨m,hm⟩:=h.2
 exact ⟨m,(hb.cell (p:=⟨0,0,none⟩) h2).trans hm⟩
theorem zh2.below {w w' : World} (h : zh2 w) (hb : Below w.heap.size w w') : zh2 w':=h.belowB hb h.1.lt (zaK h.2.choose_spec)
theorem zh2.lt {w : World} (h : zh2 w) : 3 < w.heap.size ∧ 0 < w.heap.size:=⟨h.1.lt,zaK h.2.choose_spec⟩
structure Tr (b : Nat) (l a : List UInt8) (w : World) : Prop where
 at_ : w.heap[b]? = some (.cells #[.string (str l),.string (str a)] 96 (0,0))
 len : l.length ≤ 1000000
 lo1 : 3 < b
 lo2 : 0 < b
 env : zh2 w
theorem Tr.lt {b : Nat} {l a : List UInt8} {w : World} (h : Tr b l a w) : b < w.heap.size:=(Array.getElem?_eq_some_iff.1 h.at_).1
theorem Tr.c0 {b : Nat} {l a : List UInt8} {w : World} (h : Tr b l a w) : w.cell? ⟨b,0,none⟩ = some (.string (str l)):=Lib.cell_of_heap h.at_ 0
theorem Tr.c1 {b : Nat} {l a : List UInt8} {w : World} (h : Tr b l a w) : w.cell? ⟨b,1,none⟩ = some (.string (str a)):=Lib.cell_of_heap h.at_ 1
theorem Tr.free {b : Nat} {l a : List UInt8} {w : World} (h : Tr b l a w) (o : Nat) : w.frozen? ⟨b,o,none⟩ = false:=Lib.frozen_of_heap h.at_ o
theorem Tr.envK {b : Nat} {l a : List UInt8} {w w' : World} (h : Tr b l a w) (hk : zby b w w') : zh2 w' :=
 h.env.belowB (hk.below b (Nat.le_refl _) (Nat.le_of_lt h.lt)) h.lo1 h.lo2
theorem Tr.set {b : Nat} {l a : List UInt8} {w : World} (h : Tr b l a w) (r : List UInt8) (hr : r.length ≤ l.length) : Tr b r a (w.setCell ⟨b,0,none⟩ (.string (str r))) :=
 ⟨Go.Joins.block_setCell h.at_ _,Nat.le_trans hr h.len,h.lo1,h.lo2,h.envK (zby.set b 0 w _)⟩
theorem Tr.setA {b : Nat} {l a : List UInt8} {w : World} (h : Tr b l a w) (r : List UInt8) : Tr b l r (w.setCell ⟨b,1,none⟩ (.string (str r))) :=
 ⟨Go.Joins.block_setCell h.at_ _,h.len,h.lo1,h.lo2,h.envK (zby.set b 1 w _)⟩
theorem Tr.step {b : Nat} {l a : List UInt8} {w w' : World} (h : Tr b l a w) (hb : Below w.heap.size w w') : Tr b l a w' :=
 ⟨(hb.block b h.lt).trans h.at_,h.len,h.lo1,h.lo2,h.env.below hb⟩
theorem zby.heap {b : Nat} {w w' : World} {k : Nat} {o : Obj} (h : zby b w w') (hk : w.heap[k]? = some o) (hb : k ≠ b) : w'.heap[k]? = some o :=
 (h.block k (Array.getElem?_eq_some_iff.1 hk).1 hb).trans hk
theorem zaa {p : Prop} (h : p) : Hid p:=h
theorem zfD (m : List UInt8) : ∀ l : List UInt8,Tk.fd m l ≤ l.length
 | []=>Nat.le_refl _
 | c :: t=>by
  rw [Tk.fd]
  split
  ·exact Nat.zero_le _
  ·have:=zfD m t
   rw [List.length_cons];omega
theorem zkK (m : List UInt8) (hm : m ≠ []) : ∀ l : List UInt8,(Lib.index l m = -1 ∧ Tk.fd m l = l.length) ∨ Lib.index l m = (Tk.fd m l : Int)
 | []=>by
  left
  cases m with
  | nil=>exact absurd rfl hm
  | cons a m=>exact ⟨rfl,rfl⟩
 | c :: t=>by
  rw [Lib.index,Tk.fd]
  cases hp : m.isPrefixOf (c :: t)
  ·simp only [Bool.false_eq_true,if_false]
   rcases zkK m hm t with ⟨h1,h2⟩ | h
   ·left
    rw [h1]
    exact ⟨rfl,by rw [h2];rfl⟩
   ·right
    have hq : ((Tk.fd m t : Int) == -1) = false:=by rw [beq_eq_false_iff_ne];omega
    rw [h,hq]
    simp
  ·right
   rfl
theorem zq3 (m l : List UInt8) (hm : m ≠ []) : (Lib.cut l m).1 = l.take (Tk.fd m l) ∧ (Lib.cut l m).2.1 = l.drop (Tk.fd m l + m.length):=by
 unfold Lib.cut
 rcases zkK m hm l with ⟨h1,h2⟩ | h
 ·rw [h1,h2,if_neg (by decide),List.take_length,List.drop_eq_nil_of_le (by omega)]
  exact ⟨rfl,rfl⟩
 ·rw [h,if_pos (by omega),Int.toNat_natCast]
  exact ⟨rfl,rfl⟩
theorem Cut_l (l m : List UInt8) (w : World) (hM : zh2 w) (hz : l.length ≤ 1000000000) (hm : m ≠ []) :
  ∃ x,Calls Tryz.prog 126 #[.string (str l),.string (str m)] w fun e w'=>e = .returned (.tuple #[.string (str (l.take (Tk.fd m l))),.string (str (l.drop (Tk.fd m l + m.length))),.bool x]) ∧ Below w.heap.size w w':=by
 obtain ⟨k,hk⟩:=hM.2
 have:=Tryz.strings_Cut (str l) (str m) k w (by rw [zad];omega) hk
 rw [zam,zam,(zq3 m l hm).1,(zq3 m l hm).2] at this
 refine ⟨(Lib.cut l m).2.2,this.mono ?_⟩
 rintro e w' ⟨rfl,h⟩
 exact ⟨rfl,zav h⟩
theorem zrT (l m : List UInt8) (w : World) (hM : zh2 w) (hz : l.length ≤ 1000000000) :
  Calls Tryz.prog 118 #[.string (str l),.string (str m)] w fun e w'=>e = .returned (.int .i64 (Lib.index l m)) ∧ w' = w:=by
 obtain ⟨k,hk⟩:=hM.2
 have:=Tryz.strings_Index (str l) (str m) k w (by rw [zad];omega) hk
 rw [zam,zam] at this
 exact this
theorem zbL {b : Nat} {l a : List UInt8} {w : World} (k : Nat) (h : Tr b l a w) (hk : k ≤ l.length) :
  Calls Tryz.prog 120 #[.pointer (some ⟨b,0,none⟩),.int .i64 k] w fun e w'=>e = .returned (.string (str (l.take k))) ∧ Tr b (l.drop k) a w' ∧ zby b w w':=by
 have c0:=h.c0
 have f0:=h.free 0
 have hR:=h.set (l.drop k) (by simp)
 have hz:=zad l
 have hlen:=h.len
 have he1 : (str l).extract 0 k = str (l.take k):=zbx l k
 have he2 : (str l).extract k l.length = str (l.drop k):=zax l k
 go_enter Tryz.func120,Tryz.ntmps120
 go_wp2
 go_ret
 exact ⟨rfl,hR,zby.set b 0 w _⟩
theorem zhw {b : Nat} {l a : List UInt8} {w : World} (p : List UInt8) (h : Tr b l a w) :
  Calls Tryz.prog 88 #[.pointer (some ⟨b,0,none⟩),.string (str p)] w fun e w'=>e = .returned (.bool (p.isPrefixOf l)) ∧ Tr b (if p.isPrefixOf l then l.drop p.length else l) a w' ∧ zby b w w':=by
 have c0:=h.c0
 have f0:=h.free 0
 have hR:=h.set (if p.isPrefixOf l then l.drop p.length else l) (by split <;> simp)
 have hC:=zcJ l p
 generalize (if p.isPrefixOf l then l.drop p.length else l) = r at hR hC ⊢
 go_enter Tryz.func88,Tryz.ntmps88
 go_wp2_with (go_at_call 122;refine (hC _).mono ?_;rintro e w1 ⟨rfl,hw⟩;rw [hw];clear hw)
 go_ret
 exact ⟨rfl,hR,zby.set b 0 w _⟩
theorem zhx {b : Nat} {l a : List UInt8} {w : World} (m : List UInt8) (hm : m ≠ []) (h : Tr b l a w) :
  Calls Tryz.prog 89 #[.pointer (some ⟨b,0,none⟩),.string (str m)] w fun e w'=>e = .returned (.string (str (l.take (Tk.fd m l)))) ∧ Tr b (l.drop (Tk.fd m l + m.length)) a w' ∧ zby b w w':=by
 have c0:=h.c0
 have hlen:=h.len
 obtain ⟨x,hC⟩:=Cut_l l m w h.env (by omega) hm
 have hdl : (l.drop (Tk.fd m l + m.length)).length ≤ l.length:=by simp
 generalize l.drop (Tk.fd m l + m.length) = r at hC hdl ⊢
 generalize l.take (Tk.fd m l) = t at hC ⊢
 clear hm
 go_enter Tryz.func89,Tryz.ntmps89
 go_wp2_with (go_at_call 126;refine hC.mono ?_;rintro e w1 ⟨rfl,hb⟩;have h1:=h.step hb;have c1:=h1.c0;have f1:=h1.free 0;have hR:=h1.set r hdl;clear c0)
 go_ret
 exact ⟨rfl,hR,(zby.of hb).trans (zby.set b 0 w1 _)⟩
theorem zbc (p : UInt8 → Bool) (l : List UInt8) : l.take (l.takeWhile p).length = l.takeWhile p ∧ l.drop (l.takeWhile p).length = l.dropWhile p:=by
 have e:=List.takeWhile_append_dropWhile (p:=p) (l:=l)
 constructor
 ·conv=>lhs;rw [← e]
  rw [List.take_append_of_le_length (by rw [e];exact Nat.le_refl _)]
  rw [e,List.take_length]
 ·conv=>lhs;rw [← e]
  rw [List.drop_append_of_le_length (by rw [e];exact Nat.le_refl _)]
  rw [e,List.drop_length,List.nil_append]
theorem zdA (p : UInt8 → Bool) (l : List UInt8) : (l.takeWhile p).length ≤ l.length:=by
 have:=congrArg List.length (List.takeWhile_append_dropWhile (p:=p) (l:=l))
 rw [List.length_append] at this
 omega
theorem zpE {b : Nat} {l a : List UInt8} {w : World} (h : Tr b l a w) :
  Calls Tryz.prog 155 #[.pointer (some ⟨b,0,none⟩),.func (.func 147) #[] #[]] w fun e w'=>e = .returned (.string (str (l.takeWhile Tk.tn))) ∧ Tr b (l.dropWhile Tk.tn) a w' ∧ zby b w w':=by
 have c0:=h.c0
 have hz:=zad l
 have hlen:=h.len
 have hT:=zbL (l.takeWhile Tk.tn).length h (zdA _ _)
 rw [(zbc Tk.tn l).1,(zbc Tk.tn l).2] at hT
 have HT:=zaa hT
 clear hT
 go_enter Tryz.func155,Tryz.ntmps155
 go_wp2
 go_loop [5] (fun i=>∃ k : Nat,k ≤ l.length ∧ i = .int .i64 k ∧ Hid ((l.take k).all Tk.tn = true)) (fun i=>l.length - (intOf i).toNat)
 case atStart=>exact ⟨0,Nat.zero_le _,rfl,rfl⟩
 case round =>
  obtain ⟨k,hk,rfl,HE⟩:=hrel
  by_cases hlt : k < l.length
  ·have hlt2 : k < (str l).size:=by omega
   have hat : (str l)[k] = l[k]:=rfl
   have hI:=zcK l[k]
   cases hx : Tk.tn l[k]
   ·have HN : Hid ((l.takeWhile Tk.tn).length = k):=zb3 _ _ k hlt HE.out hx
    rw [hx] at hI
    have hK:=HT.out
    rw [HN.out] at hK
    clear hx HE HN HT
    go_wp2_with (first
     | (go_at_call 147;(try rw [hat]);refine (hI _).mono ?_;rintro e w1 ⟨rfl,hw⟩;rw [hw];clear hw)
     | (go_at_call 120;refine hK.mono ?_;rintro e w2 ⟨rfl,h2,k2⟩))
    go_ret
    exact ⟨rfl,h2,k2⟩
   ·have HN : Hid ((l.take (k + 1)).all Tk.tn = true):=za7 _ _ k hlt HE.out hx
    rw [hx] at hI
    clear hx HE
    go_wp2_with (go_at_call 147;(try rw [hat]);refine (hI _).mono ?_;rintro e w1 ⟨rfl,hw⟩;rw [hw];clear hw)
    go_round
    case rel=>exact ⟨k + 1,by omega,by go_num,HN⟩
    case measure=>simp [intOf];omega
  ·have HN : Hid ((l.takeWhile Tk.tn).length = k):=by
    have h:=HE.out
    rw [List.take_of_length_le (by omega)] at h
    show _ = _
    rw [zeV _ _ h]
    omega
   have hK:=HT.out
   rw [HN.out] at hK
   clear HE HN HT
   go_wp2_with (go_at_call 120;refine hK.mono ?_;rintro e w2 ⟨rfl,h2,k2⟩)
   go_ret
   exact ⟨rfl,h2,k2⟩
theorem znp {b : Nat} {l a : List UInt8} {w : World} (h : Tr b l a w) :
  Calls Tryz.prog 155 #[.pointer (some ⟨b,0,none⟩),.func (.func 156) #[] #[]] w fun e w'=>e = .returned (.string (str (l.takeWhile gp))) ∧ Tr b (l.dropWhile gp) a w' ∧ zby b w w':=by
 have c0:=h.c0
 have hz:=zad l
 have hlen:=h.len
 have hT:=zbL (l.takeWhile gp).length h (zdA _ _)
 rw [(zbc gp l).1,(zbc gp l).2] at hT
 have HT:=zaa hT
 clear hT
 go_enter Tryz.func155,Tryz.ntmps155
 go_wp2
 go_loop [5] (fun i=>∃ k : Nat,k ≤ l.length ∧ i = .int .i64 k ∧ Hid ((l.take k).all gp = true)) (fun i=>l.length - (intOf i).toNat)
 case atStart=>exact ⟨0,Nat.zero_le _,rfl,rfl⟩
 case round =>
  obtain ⟨k,hk,rfl,HE⟩:=hrel
  by_cases hlt : k < l.length
  ·have hlt2 : k < (str l).size:=by omega
   have hat : (str l)[k] = l[k]:=rfl
   have hI:=zfB l[k]
   cases hx : gp l[k]
   ·have HN : Hid ((l.takeWhile gp).length = k):=zb3 _ _ k hlt HE.out hx
    rw [hx] at hI
    have hK:=HT.out
    rw [HN.out] at hK
    clear hx HE HN HT
    go_wp2_with (first
     | (go_at_call 156;(try rw [hat]);refine (hI _).mono ?_;rintro e w1 ⟨rfl,hw⟩;rw [hw];clear hw)
     | (go_at_call 120;refine hK.mono ?_;rintro e w2 ⟨rfl,h2,k2⟩))
    go_ret
    exact ⟨rfl,h2,k2⟩
   ·have HN : Hid ((l.take (k + 1)).all gp = true):=za7 _ _ k hlt HE.out hx
    rw [hx] at hI
    clear hx HE
    go_wp2_with (go_at_call 156;(try rw [hat]);refine (hI _).mono ?_;rintro e w1 ⟨rfl,hw⟩;rw [hw];clear hw)
    go_round
    case rel=>exact ⟨k + 1,by omega,by go_num,HN⟩
    case measure=>simp [intOf];omega
  ·have HN : Hid ((l.takeWhile gp).length = k):=by
    have h:=HE.out
    rw [List.take_of_length_le (by omega)] at h
    show _ = _
    rw [zeV _ _ h]
    omega
   have hK:=HT.out
   rw [HN.out] at hK
   clear HE HN HT
   go_wp2_with (go_at_call 120;refine hK.mono ?_;rintro e w2 ⟨rfl,h2,k2⟩)
   go_ret
   exact ⟨rfl,h2,k2⟩
theorem zpF {b : Nat} {l a : List UInt8} {w : World} (h : Tr b l a w) :
  Calls Tryz.prog 155 #[.pointer (some ⟨b,0,none⟩),.func (.func 183) #[] #[]] w fun e w'=>e = .returned (.string (str (l.takeWhile Tk.an))) ∧ Tr b (l.dropWhile Tk.an) a w' ∧ zby b w w':=by
 have c0:=h.c0
 have hz:=zad l
 have hlen:=h.len
 have hT:=zbL (l.takeWhile Tk.an).length h (zdA _ _)
 rw [(zbc Tk.an l).1,(zbc Tk.an l).2] at hT
 have HT:=zaa hT
 clear hT
 go_enter Tryz.func155,Tryz.ntmps155
 go_wp2
 go_loop [5] (fun i=>∃ k : Nat,k ≤ l.length ∧ i = .int .i64 k ∧ Hid ((l.take k).all Tk.an = true)) (fun i=>l.length - (intOf i).toNat)
 case atStart=>exact ⟨0,Nat.zero_le _,rfl,rfl⟩
 case round =>
  obtain ⟨k,hk,rfl,HE⟩:=hrel
  by_cases hlt : k < l.length
  ·have hlt2 : k < (str l).size:=by omega
   have hat : (str l)[k] = l[k]:=rfl
   have hI:=ze6 l[k]
   cases hx : Tk.an l[k]
   ·have HN : Hid ((l.takeWhile Tk.an).length = k):=zb3 _ _ k hlt HE.out hx
    rw [hx] at hI
    have hK:=HT.out
    rw [HN.out] at hK
    clear hx HE HN HT
    go_wp2_with (first
     | (go_at_call 183;(try rw [hat]);refine (hI _).mono ?_;rintro e w1 ⟨rfl,hw⟩;rw [hw];clear hw)
     | (go_at_call 120;refine hK.mono ?_;rintro e w2 ⟨rfl,h2,k2⟩))
    go_ret
    exact ⟨rfl,h2,k2⟩
   ·have HN : Hid ((l.take (k + 1)).all Tk.an = true):=za7 _ _ k hlt HE.out hx
    rw [hx] at hI
    clear hx HE
    go_wp2_with (go_at_call 183;(try rw [hat]);refine (hI _).mono ?_;rintro e w1 ⟨rfl,hw⟩;rw [hw];clear hw)
    go_round
    case rel=>exact ⟨k + 1,by omega,by go_num,HN⟩
    case measure=>simp [intOf];omega
  ·have HN : Hid ((l.takeWhile Tk.an).length = k):=by
    have h:=HE.out
    rw [List.take_of_length_le (by omega)] at h
    show _ = _
    rw [zeV _ _ h]
    omega
   have hK:=HT.out
   rw [HN.out] at hK
   clear HE HN HT
   go_wp2_with (go_at_call 120;refine hK.mono ?_;rintro e w2 ⟨rfl,h2,k2⟩)
   go_ret
   exact ⟨rfl,h2,k2⟩
theorem zpG {b : Nat} {l a : List UInt8} {w : World} (h : Tr b l a w) :
  Calls Tryz.prog 155 #[.pointer (some ⟨b,0,none⟩),.func (.func 198) #[] #[]] w fun e w'=>e = .returned (.string (str (l.takeWhile Tk.vn))) ∧ Tr b (l.dropWhile Tk.vn) a w' ∧ zby b w w':=by
 have c0:=h.c0
 have hz:=zad l
 have hlen:=h.len
 have hT:=zbL (l.takeWhile Tk.vn).length h (zdA _ _)
 rw [(zbc Tk.vn l).1,(zbc Tk.vn l).2] at hT
 have HT:=zaa hT
 clear hT
 go_enter Tryz.func155,Tryz.ntmps155
 go_wp2
 go_loop [5] (fun i=>∃ k : Nat,k ≤ l.length ∧ i = .int .i64 k ∧ Hid ((l.take k).all Tk.vn = true)) (fun i=>l.length - (intOf i).toNat)
 case atStart=>exact ⟨0,Nat.zero_le _,rfl,rfl⟩
 case round =>
  obtain ⟨k,hk,rfl,HE⟩:=hrel
  by_cases hlt : k < l.length
  ·have hlt2 : k < (str l).size:=by omega
   have hat : (str l)[k] = l[k]:=rfl
   have hI:=zhr l[k]
   cases hx : Tk.vn l[k]
   ·have HN : Hid ((l.takeWhile Tk.vn).length = k):=zb3 _ _ k hlt HE.out hx
    rw [hx] at hI
    have hK:=HT.out
    rw [HN.out] at hK
    clear hx HE HN HT
    go_wp2_with (first
     | (go_at_call 198;(try rw [hat]);refine (hI _).mono ?_;rintro e w1 ⟨rfl,hw⟩;rw [hw];clear hw)
     | (go_at_call 120;refine hK.mono ?_;rintro e w2 ⟨rfl,h2,k2⟩))
    go_ret
    exact ⟨rfl,h2,k2⟩
   ·have HN : Hid ((l.take (k + 1)).all Tk.vn = true):=za7 _ _ k hlt HE.out hx
    rw [hx] at hI
    clear hx HE
    go_wp2_with (go_at_call 198;(try rw [hat]);refine (hI _).mono ?_;rintro e w1 ⟨rfl,hw⟩;rw [hw];clear hw)
    go_round
    case rel=>exact ⟨k + 1,by omega,by go_num,HN⟩
    case measure=>simp [intOf];omega
  ·have HN : Hid ((l.takeWhile Tk.vn).length = k):=by
    have h:=HE.out
    rw [List.take_of_length_le (by omega)] at h
    show _ = _
    rw [zeV _ _ h]
    omega
   have hK:=HT.out
   rw [HN.out] at hK
   clear HE HN HT
   go_wp2_with (go_at_call 120;refine hK.mono ?_;rintro e w2 ⟨rfl,h2,k2⟩)
   go_ret
   exact ⟨rfl,h2,k2⟩
theorem zdM {b : Nat} {l a : List UInt8} {w : World} (h : Tr b l a w) :
  Calls Tryz.prog 155 #[.pointer (some ⟨b,0,none⟩),.func (.func 180) #[] #[]] w fun e w'=>e = .returned (.string (str (l.takeWhile Asc.zbn))) ∧ Tr b (l.dropWhile Asc.zbn) a w' ∧ zby b w w':=by
 have c0:=h.c0
 have hz:=zad l
 have hlen:=h.len
 have hT:=zbL (l.takeWhile Asc.zbn).length h (zdA _ _)
 rw [(zbc Asc.zbn l).1,(zbc Asc.zbn l).2] at hT
 have HT:=zaa hT
 clear hT
 go_enter Tryz.func155,Tryz.ntmps155
 go_wp2
 go_loop [5] (fun i=>∃ k : Nat,k ≤ l.length ∧ i = .int .i64 k ∧ Hid ((l.take k).all Asc.zbn = true)) (fun i=>l.length - (intOf i).toNat)
 case atStart=>exact ⟨0,Nat.zero_le _,rfl,rfl⟩
 case round =>
  obtain ⟨k,hk,rfl,HE⟩:=hrel
  by_cases hlt : k < l.length
  ·have hlt2 : k < (str l).size:=by omega
   have hat : (str l)[k] = l[k]:=rfl
   have hI:=zdK l[k]
   cases hx : Asc.zbn l[k]
   ·have HN : Hid ((l.takeWhile Asc.zbn).length = k):=zb3 _ _ k hlt HE.out hx
    rw [hx] at hI
    have hK:=HT.out
    rw [HN.out] at hK
    clear hx HE HN HT
    go_wp2_with (first
     | (go_at_call 180;(try rw [hat]);refine (hI _).mono ?_;rintro e w1 ⟨rfl,hw⟩;rw [hw];clear hw)
     | (go_at_call 120;refine hK.mono ?_;rintro e w2 ⟨rfl,h2,k2⟩))
    go_ret
    exact ⟨rfl,h2,k2⟩
   ·have HN : Hid ((l.take (k + 1)).all Asc.zbn = true):=za7 _ _ k hlt HE.out hx
    rw [hx] at hI
    clear hx HE
    go_wp2_with (go_at_call 180;(try rw [hat]);refine (hI _).mono ?_;rintro e w1 ⟨rfl,hw⟩;rw [hw];clear hw)
    go_round
    case rel=>exact ⟨k + 1,by omega,by go_num,HN⟩
    case measure=>simp [intOf];omega
  ·have HN : Hid ((l.takeWhile Asc.zbn).length = k):=by
    have h:=HE.out
    rw [List.take_of_length_le (by omega)] at h
    show _ = _
    rw [zeV _ _ h]
    omega
   have hK:=HT.out
   rw [HN.out] at hK
   clear HE HN HT
   go_wp2_with (go_at_call 120;refine hK.mono ?_;rintro e w2 ⟨rfl,h2,k2⟩)
   go_ret
   exact ⟨rfl,h2,k2⟩
end Go.Proofs.YtiodaahncadodaaGreatDoor
