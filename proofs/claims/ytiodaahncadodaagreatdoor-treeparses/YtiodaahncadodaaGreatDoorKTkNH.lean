/- Texts laid as one. -/
import Derived.Test.YtiodaahncadodaaGreatDoorKTkEG
import Derived.Test.YtiodaahncadodaaGreatDoorKRfM
set_option maxRecDepth 100000
set_option maxHeartbeats 1000000
set_option linter.unusedVariables false
set_option linter.unusedSimpArgs false
namespace Go.Proofs.YtiodaahncadodaaGreatDoor
open Go.RowKit
theorem zeu (s : List UInt8) (k : Nat) (h : k < s.length) : s.drop k = s[k] :: s.drop (k + 1):=List.drop_eq_getElem_cons h
theorem zpU (s : List UInt8) (h : Tk.zca s = true) : Tk.zhp s = 0:=by
 cases s with
 | nil=>rfl
 | cons c t=>rw [Tk.zhp,if_pos h]
theorem znI (s : List UInt8) (k : Nat) (h : k < s.length) (ht : Tk.zca (s.drop k) = false) : Tk.zhp (s.drop k) = Tk.zhp (s.drop (k + 1)) + 1:=by
 rw [zeu s k h] at ht ⊢
 rw [Tk.zhp,ht]
 simp
theorem zr2 (t : List UInt8) (c d : UInt8) (hc : c ≠ 62) (hd : d ≠ 62) : Tk.fd [62] (c :: d :: t) = Tk.fd [62] t + 2:=by
 have e1 : [62].isPrefixOf (c :: d :: t) = false:=by
  have : (62 == c) = false:=beq_eq_false_iff_ne.2 fun e=>hc e.symm
  simp [List.isPrefixOf,this]
 have e2 : [62].isPrefixOf (d :: t) = false:=by
  have : (62 == d) = false:=beq_eq_false_iff_ne.2 fun e=>hd e.symm
  simp [List.isPrefixOf,this]
 rw [Tk.fd,e1,if_neg (by decide),Tk.fd,e2,if_neg (by decide)]
theorem zlH (s : List UInt8) : Tk.zkD Tk.zrG (s.take (Tk.fd [62] s)) = Tk.zkD Tk.zrG s:=by
 have hn:=zfD [62] s
 by_cases h9 : 9 ≤ Tk.fd [62] s
 ·unfold Tk.zkD
  have e1 : Tk.zrG.length = 9:=rfl
  rw [e1,List.length_take,List.take_take,Nat.min_eq_left h9,decide_eq_true (show 9 ≤ min (Tk.fd [62] s) s.length by omega),decide_eq_true (show 9 ≤ s.length by omega)]
 ·have hL : Tk.zkD Tk.zrG (s.take (Tk.fd [62] s)) = false:=by
   unfold Tk.zkD
   have e1 : Tk.zrG.length = 9:=rfl
   rw [e1,List.length_take,decide_eq_false (by omega)]
   rfl
  rw [hL]
  symm
  unfold Tk.zkD
  have e1 : Tk.zrG.length = 9:=rfl
  rw [e1]
  by_cases hs : 9 ≤ s.length
  ·rcases Tk.fd_at [62] s with e | ⟨r,e⟩
   ·omega
   ·generalize Tk.fd [62] s = n at *
    rw [Bool.and_eq_false_iff]
    right
    rw [beq_eq_false_iff_ne]
    intro he
    have hg : s[n]? = some 62:=by
     have : (s.drop n)[0]? = some 62:=by rw [e];rfl
     rwa [List.getElem?_drop,Nat.add_zero] at this
    have h2 : (Asc.zbJ (s.take 9))[n]? = Tk.zrG[n]?:=by rw [he]
    unfold Asc.zbJ at h2
    rw [List.getElem?_map,List.getElem?_take,if_pos (by omega),hg] at h2
    have h3 : ∀ m : Fin 9,¬ (Option.map Asc.zbX (some 62) = Tk.zrG[m.val]?):=by decide +kernel
    exact h3 ⟨n,by omega⟩ h2
  ·rw [decide_eq_false hs]
   rfl
def zip (s : List UInt8) : Tk.Tok × List UInt8 :=
 (if Tk.zkD Tk.zrG s = true then ⟨5,[],[],false,[]⟩ else ⟨4,[],[],false,(s.drop 2).take (Tk.fd [62] (s.drop 2))⟩,s.drop (Tk.fd [62] (s.drop 2) + 3))
theorem zfN (n s : List UInt8) : Tk.zrJ n (60 :: 47 :: s) = ze7 n s:=by
 unfold Tk.zrJ ze7 Tk.zkD
 have e1 : (60 :: 47 :: n : List UInt8).length = n.length + 2:=rfl
 have e2 : (60 :: 47 :: s : List UInt8).length = s.length + 2:=rfl
 rw [e1,e2,List.take_succ_cons,List.take_succ_cons,Nat.add_comm 2 n.length]
 have e3 : (60 :: 47 :: s : List UInt8).drop (n.length + 2) = s.drop n.length:=rfl
 rw [e3]
 have e4 : Asc.zbJ (60 :: 47 :: s.take n.length) = 60 :: 47 :: Asc.zbJ (s.take n.length):=rfl
 rw [e4]
 have e5 : decide (n.length + 2 ≤ s.length + 2) = decide (n.length ≤ s.length):=by
  by_cases h : n.length ≤ s.length
  ·rw [decide_eq_true h,decide_eq_true (by omega)]
  ·rw [decide_eq_false h,decide_eq_false (by omega)]
 rw [e5]
 congr 2
theorem zfO (c : UInt8) (x : UInt8) (hx : Tk.zlp x = false) (h : Asc.zbX c = x) : c = x:=by
 subst h
 have:=Tk.zfg (P:=fun c=>Tk.zlp (Asc.zbX c) || c == Asc.zbX c) (by decide +kernel) c
 rw [hx] at this
 simpa using this
theorem zgN (n : List UInt8) (c : UInt8) (t : List UInt8) (h : [60,47].isPrefixOf (c :: t) = false) : Tk.zrJ n (c :: t) = false:=by
 unfold Tk.zrJ Tk.zkD
 have hb : (Asc.zbJ ((c :: t).take (60 :: 47 :: n : List UInt8).length) == 60 :: 47 :: n) = false:=by
  rw [beq_eq_false_iff_ne]
  intro he
  rw [show (60 :: 47 :: n : List UInt8).length = n.length + 2 from rfl,List.take_succ_cons] at he
  have h1 : Asc.zbX c :: Asc.zbJ (t.take (n.length + 1)) = 60 :: 47 :: n:=he
  have h2:=List.cons.inj h1
  have hc:=zfO c 60 (by decide +kernel) h2.1
  cases t with
  | nil=>cases h2.2
  | cons d t =>
   rw [List.take_succ_cons] at h2
   have h3 : Asc.zbX d :: Asc.zbJ (t.take n.length) = 47 :: n:=h2.2
   have hd:=zfO d 47 (by decide +kernel) (List.cons.inj h3).1
   subst hc hd
   revert h
   simp [List.isPrefixOf]
 rw [hb]
 simp
theorem znJ (n : List UInt8) : ∀ s : List UInt8,Tk.zpr n s = Tk.fd [60,47] s + Tk.zpr n (s.drop (Tk.fd [60,47] s))
 | []=>rfl
 | c :: t=>by
  cases h : [60,47].isPrefixOf (c :: t)
  ·rw [Tk.fd,h,if_neg (by decide),Tk.zpr,zgN n c t h,if_neg (by decide),znJ n t,List.drop_succ_cons]
   omega
  ·rw [Tk.fd,h,if_pos rfl]
   simp
theorem znK (n t : List UInt8) (h : ze7 n t = true) : Tk.zpr n (60 :: 47 :: t) = 0:=by
 rw [Tk.zpr,zfN,if_pos h]
theorem zr3 (n t : List UInt8) (h : ze7 n t = false) : Tk.zpr n (60 :: 47 :: t) = Tk.zpr n t + 2:=by
 rw [Tk.zpr,zfN,h,if_neg (by decide),Tk.zpr,zgN n 47 t (by simp [List.isPrefixOf]),if_neg (by decide)]
theorem zjM (l : List UInt8) : ∃ p,l = p ++ (Tk.zet l).2:=by
 unfold Tk.zet
 split
 ·exact ⟨Tk.zey l,(Tk.zrM _).symm⟩
 ·rename_i r2 e2
  have a1:=Tk.zrM l
  obtain ⟨p3,hp3⟩ : ∃ p3,Tk.zd0 l = p3 ++ r2:=by
   unfold Tk.eqR at e2
   have b1:=List.takeWhile_append_dropWhile (p:=Asc.zbn) (l:=Tk.zd0 l)
   split at e2
   ·cases e2
   ·rename_i c3 q3 e3
    split at e2
    ·cases e2
     have b2:=List.takeWhile_append_dropWhile (p:=Asc.zbn) (l:=q3)
     refine ⟨(Tk.zd0 l).takeWhile Asc.zbn ++ c3 :: q3.takeWhile Asc.zbn,?_⟩
     rw [List.append_assoc,List.cons_append,b2,← e3,b1]
    ·cases e2
  obtain ⟨p4,hp4⟩ : ∃ p4,r2 = p4 ++ Tk.zkB r2:=by
   cases r2 with
   | nil=>exact ⟨[],rfl⟩
   | cons q4 t4 =>
    rw [Tk.zkB]
    split
    ·have b3:=List.takeWhile_append_dropWhile (p:=(· != q4)) (l:=t4)
     have b4:=List.take_append_drop 1 (t4.dropWhile (· != q4))
     refine ⟨q4 :: (t4.takeWhile (· != q4) ++ (t4.dropWhile (· != q4)).take 1),?_⟩
     rw [List.cons_append,List.append_assoc,b4,b3]
    ·exact ⟨_,(List.takeWhile_append_dropWhile (p:=Tk.vn)).symm⟩
  refine ⟨Tk.zey l ++ (p3 ++ p4),?_⟩
  show _ = _ ++ Tk.zkB r2
  rw [List.append_assoc,List.append_assoc,← hp4,← hp3,a1]
theorem zeC : ∀ (f : Nat) (l : List UInt8) (ats : List Pr) (sl : Bool) (x : List Pr × Bool × List UInt8),Tk.tgF f l ats sl = some x → ∃ p,l = p ++ x.2.2
 | 0,l,ats,sl,x,h=>by cases h
 | f + 1,[],ats,sl,x,h=>by cases h
 | f + 1,d :: u,ats,sl,x,h=>by
  rw [Tk.tgF] at h
  split at h
  ·cases h;exact ⟨[d],rfl⟩
  split at h
  ·obtain ⟨p,hp⟩:=zeC f _ _ _ x h
   exact ⟨d :: p,by rw [hp];rfl⟩
  ·obtain ⟨p,hp⟩:=zeC f _ _ _ x h
   obtain ⟨p2,hp2⟩:=zjM (d :: u)
   exact ⟨p2 ++ p,by rw [List.append_assoc,← hp,← hp2]⟩
theorem zgO (l r : List UInt8) (k : Tk.Tok) (hk : Tk.tag l = some (k,r)) : ∃ p,l = p ++ r:=by
 unfold Tk.tag at hk
 split at hk
 ·cases hk
 ·rename_i ats sl q eq
  cases hk
  obtain ⟨p,hp⟩:=zeC _ _ _ _ _ eq
  have b:=List.takeWhile_append_dropWhile (p:=Tk.tn) (l:=l)
  exact ⟨l.takeWhile Tk.tn ++ p,by rw [List.append_assoc,← hp,b]⟩
theorem zfP (q l r : List UInt8) (h : ∃ p,l = p ++ r) : (q ++ l).drop ((q ++ l).length - r.length) = r:=by
 obtain ⟨p,rfl⟩:=h
 rw [← List.append_assoc]
 exact List.drop_left' (by simp only [List.length_append];omega)
def decT (n x : List UInt8) : List UInt8:=if Tk.isDec n = true then Rf.dec false x else x
def ownP (n s : List UInt8) : Tk.Tok × List UInt8:=(Tk.zb2 (decT n (s.take (Tk.zpr n s))),s.drop (Tk.zpr n s))
def nxL (s : List UInt8) : Tk.Tok × List UInt8:=((Tk.next s).1,s.drop (Tk.next s).2)
def nxA (k : Tk.Tok) : List UInt8:=if k.kind = 1 ∧ Tk.zrI k.name = true then k.name else []
theorem zpV (l : List UInt8) (h : Tk.zd1 l = true) : nxL (60 :: l) = zcU l ∧ nxA (zcU l).1 = zeY (zcU l).1 []:=by
 have hi : Tk.zca (60 :: l) = true:=by
  cases l with
  | nil=>cases h
  | cons c t =>
   have hc : Tk.zlp c = true:=h
   show (Tk.zlp c || c == 47 || c == 33 || c == 63) = true
   rw [hc]
   rfl
 constructor
 ·unfold nxL Tk.next zcU
  rw [if_neg (by simp),if_neg (by rw [hi];simp),if_pos (by exact h)]
  show ((match Tk.tag l with | none=>_ | some (k,r)=>_ : Tk.Tok × Nat).1,List.drop (match Tk.tag l with | none=>_ | some (k,r)=>_ : Tk.Tok × Nat).2 (60 :: l)) = _
  cases he : Tk.tag l with
  | none=>exact congrArg (Prod.mk _) (List.drop_length ..)
  | some x =>
   obtain ⟨k,r⟩:=x
   exact congrArg (Prod.mk _) (zfP [60] l r (zgO l r k he))
 ·unfold nxA zeY
  rcases zfM l with e | e
  ·rw [e]
   rfl
  ·rw [e]
   simp
theorem nx_end (l : List UInt8) (h : Tk.zd1 l = true) : nxL (60 :: 47 :: l) = zpT (zcU l) ∧ nxA (zpT (zcU l)).1 = []:=by
 constructor
 ·have hk:=zfM l
  unfold nxL Tk.next
  rw [if_neg (by simp),if_neg (by simp [Tk.zca]),if_neg (by show ¬ Tk.zlp 47 = true;decide +kernel),if_pos ⟨rfl,by exact h⟩]
  show ((match Tk.tag l with | none=>_ | some (k,r)=>_ : Tk.Tok × Nat).1,List.drop (match Tk.tag l with | none=>_ | some (k,r)=>_ : Tk.Tok × Nat).2 (60 :: 47 :: l)) = _
  unfold zcU at hk ⊢
  cases he : Tk.tag l with
  | none=>exact congrArg (Prod.mk _) (List.drop_length ..)
  | some x =>
   obtain ⟨k,r⟩:=x
   have h1 : k.kind = 1:=by
    rw [he] at hk
    rcases hk with e | e
    ·have:=congrArg (·.1.kind) e
     unfold Tk.tag at he
     split at he
     ·cases he
     ·cases he
      rfl
    ·exact e
   unfold zpT
   rw [if_neg (by show ¬ k.kind = 0;omega)]
   exact congrArg (Prod.mk _) (zfP [60,47] l r (zgO l r k he))
 ·unfold zpT
  split <;> rfl
theorem zr4 (d : UInt8) (t : List UInt8) (hd : d = 47 ∨ d = 33 ∨ d = 63) (h1 : zdt [60,47] (60 :: d :: t) = false) (h2 : [60,33,45,45].isPrefixOf (60 :: d :: t) = false) : nxL (60 :: d :: t) = zip (60 :: d :: t) ∧ nxA (zip (60 :: d :: t)).1 = []:=by
 have hi : Tk.zca (60 :: d :: t) = true:=by
  show (Tk.zlp d || d == 47 || d == 33 || d == 63) = true
  rcases hd with rfl | rfl | rfl <;> decide +kernel
 have hl : ¬ Tk.zd1 ((60 :: d :: t).drop 1) = true:=by
  show ¬ Tk.zlp d = true
  rcases hd with rfl | rfl | rfl <;> decide +kernel
 have he : ¬ (((60 :: d :: t).drop 1).head? = some 47 ∧ Tk.zd1 ((60 :: d :: t).drop 2) = true):=by
  rintro ⟨e1,e2⟩
  have e3 : d = 47:=by simpa using e1
  subst e3
  have e4 : Tk.zd1 t = true:=e2
  have : zdt [60,47] (60 :: 47 :: t) = true:=by
   unfold zdt
   show ([60,47].isPrefixOf (60 :: 47 :: t) && Tk.zd1 t) = true
   rw [e4]
   simp [List.isPrefixOf]
  rw [this] at h1
  cases h1
 have hb : ¬ Tk.zkD [60,33,45,45] (60 :: d :: t) = true:=by
  intro hb
  unfold Tk.zkD at hb
  rw [Bool.and_eq_true] at hb
  have e1 : Asc.zbJ ((60 :: d :: t).take 4) = [60,33,45,45]:=by simpa using hb.2
  match t,e1 with
  | x :: y :: u,e1 =>
   have e2 : [Asc.zbX 60,Asc.zbX d,Asc.zbX x,Asc.zbX y] = [60,33,45,45]:=e1
   simp only [List.cons.injEq,and_true] at e2
   have i1:=zfO d 33 (by decide +kernel) e2.2.1
   have i2:=zfO x 45 (by decide +kernel) e2.2.2.1
   have i3:=zfO y 45 (by decide +kernel) e2.2.2.2
   subst i1 i2 i3
   simp [List.isPrefixOf] at h2
  | [x],e1=>have:=congrArg List.length e1;simp [Asc.zbJ] at this
  | [],e1=>have:=congrArg List.length e1;simp [Asc.zbJ] at this
 constructor
 ·unfold nxL Tk.next zip
  rw [if_neg (by simp),if_neg (by rw [hi];simp),if_neg hl,if_neg he,if_neg hb]
  split
  ·exact congrArg (Prod.mk _) (Tk.drop_min _ _)
  ·exact congrArg (Prod.mk _) (Tk.drop_min _ _)
 ·unfold zip nxA
  split <;> rfl
theorem zr5 (t : List UInt8) : nxL (60 :: 33 :: 45 :: 45 :: t) = (⟨4,[],[],false,t.take (Tk.fd [45,45,62] t)⟩,t.drop (Tk.fd [45,45,62] t + 3)):=by
 have hi : Tk.zca (60 :: 33 :: 45 :: 45 :: t) = true:=by simp [Tk.zca]
 have hb : Tk.zkD [60,33,45,45] (60 :: 33 :: 45 :: 45 :: t) = true:=by
  unfold Tk.zkD
  rw [Bool.and_eq_true]
  refine ⟨by simp,?_⟩
  show (Asc.zbJ [60,33,45,45] == [60,33,45,45]) = true
  decide +kernel
 unfold nxL Tk.next
 rw [if_neg (by simp),if_neg (by rw [hi];simp),if_neg (by show ¬ Tk.zlp 33 = true;decide +kernel),if_neg (by rintro ⟨e,_⟩;revert e;simp),if_pos hb]
 refine congrArg (Prod.mk _) ((Tk.drop_min _ _).trans ?_)
 show (60 :: 33 :: 45 :: 45 :: t).drop (Tk.fd [45,45,62] t + 7) = _
 rfl
theorem zpW (s : List UInt8) (h0 : s ≠ []) (h : Tk.zca s = false) : nxL s = (Tk.zb2 (Rf.dec false (s.take (Tk.zhp s))),s.drop (Tk.zhp s)):=by
 unfold nxL Tk.next
 rw [if_neg h0,if_pos h]
def zdu (a s : List UInt8) : Tk.Tok × List UInt8:=if a = [] ∨ Tk.zpr a s = 0 then nxL s else ownP a s
def zeD (a s : List UInt8) : List UInt8:=if a = [] ∨ Tk.zpr a s = 0 then nxA (nxL s).1 else []
def zeb (a s : List UInt8) : List Tk.Tok:=if a = [] then Tk.all s else (if Tk.zpr a s = 0 then [] else [(ownP a s).1]) ++ Tk.all (s.drop (Tk.zpr a s))
theorem zpX (a : List UInt8) : zeb a [] = []:=by
 unfold zeb
 split
 ·rfl
 ·rfl
theorem zr6 (s : List UInt8) (h : s ≠ []) : ((nxL s).1.kind = 0 → Tk.all s = []) ∧ ((nxL s).1.kind ≠ 0 → Tk.all s = (nxL s).1 :: zeb (nxA (nxL s).1) (nxL s).2):=by
 have hn:=Tk.zff s h
 have hg:=Tk.zdz s h
 constructor
 ·intro hk
  have hk0 : (Tk.next s).1.kind = 0:=hk
  rw [hg]
  unfold Tk.zbK
  rw [if_neg (by omega),if_pos hk0,(hn.2.2.2 hk0),List.drop_length]
  rfl
 ·intro hk
  have hk0 : (Tk.next s).1.kind ≠ 0:=hk
  by_cases hr : (Tk.next s).1.kind = 1 ∧ Tk.zrI (Tk.next s).1.name = true
  ·have hne : ¬ (Tk.next s).1.name = []:=by
    intro e
    have h2:=hr.2
    rw [e] at h2
    revert h2
    decide
   have e2 : nxA (nxL s).1 = (Tk.next s).1.name:=if_pos hr
   rw [hg,e2]
   unfold Tk.zbK zeb
   rw [if_pos hr,if_neg hne]
   rfl
  ·have e2 : nxA (nxL s).1 = []:=if_neg hr
   rw [hg,e2]
   unfold Tk.zbK zeb
   rw [if_neg hr,if_pos rfl,if_neg hk0]
   rfl
theorem zr7 (a s : List UInt8) (h : s ≠ []) : ((zdu a s).1.kind = 0 → zeb a s = []) ∧ ((zdu a s).1.kind ≠ 0 → zeb a s = (zdu a s).1 :: zeb (zeD a s) (zdu a s).2):=by
 unfold zdu zeD
 by_cases hc : a = [] ∨ Tk.zpr a s = 0
 ·rw [if_pos hc,if_pos hc]
  have e : zeb a s = Tk.all s:=by
   unfold zeb
   by_cases ha : a = []
   ·rw [if_pos ha]
   ·rw [if_neg ha,if_pos (hc.resolve_left ha),hc.resolve_left ha]
    rfl
  rw [e]
  exact zr6 s h
 ·rw [if_neg hc,if_neg hc]
  refine ⟨fun e=>(by cases e),fun _=>?_⟩
  unfold zeb
  rw [if_neg (fun e=>hc (.inl e)),if_neg (fun e=>hc (.inr e)),if_pos rfl]
  rfl
def RawA (a : List UInt8) : Prop:=a = [] ∨ Tk.zrI a = true
theorem znL (a s : List UInt8) : RawA (zeD a s):=by
 unfold zeD nxA RawA
 split
 ·split
  ·rename_i h;exact .inr h.2
  ·exact .inl rfl
 ·exact .inl rfl
theorem znM (a : List UInt8) (h : Tk.zrI a = true) : a ∈ Tk.rawNames:=by
 unfold Tk.zrI at h
 unfold Tk.rawNames
 simp only [Bool.or_eq_true,beq_iff_eq] at h
 simp only [List.mem_cons,List.not_mem_nil,or_false]
 rcases h with ((h | h) | h) | h
 ·exact .inl h
 ·exact .inr (.inl h)
 ·exact .inr (.inr (.inl h))
 ·exact .inr (.inr (.inr h))
theorem zr8 (a : List UInt8) (h : Tk.zrI a = true) : Asc.zbJ a = a ∧ a.length ≤ 8 ∧ a ≠ []:=by
 have h2:=znM a h
 unfold Tk.rawNames at h2
 simp only [List.mem_cons,List.not_mem_nil,or_false] at h2
 rcases h2 with rfl | rfl | rfl | rfl <;> decide +kernel
theorem znN (a s : List UInt8) (h : s ≠ []) : (zdu a s).2.length + 1 ≤ s.length:=by
 unfold zdu
 split
 ·have:=Tk.zff s h
  show (s.drop (Tk.next s).2).length + 1 ≤ _
  rw [List.length_drop]
  omega
 ·rename_i hc
  have : Tk.zpr a s ≠ 0:=fun e=>hc (.inr e)
  have h2:=Tk.zmU a s
  show (s.drop (Tk.zpr a s)).length + 1 ≤ _
  rw [List.length_drop]
  omega
theorem znO {b : Nat} {s a : List UInt8} {w : World} (h : Tr b s a w) (hs : s ≠ []) (ht : Tk.zca s = false) :
  Calls Tryz.prog 92 #[.pointer (some ⟨b,0,none⟩)] w (zaU b a w (Tk.zb2 (Rf.dec false (s.take (Tk.zhp s))),s.drop (Tk.zhp s))):=by
 have hz:=(zero_of_info zjL).1
 have hbw:=h.lt
 have hlen:=h.len
 have hsz:=zad s
 have hpos : 1 ≤ s.length:=by cases s <;> simp at hs ⊢
 have h0:=h.step ((Below.refl _ w).alloc (Nat.le_refl _) (.cells kCells0 56))
 have hk0 : zby b w (w.alloc (.cells kCells0 56)):=zby.of ((Below.refl _ w).alloc (Nat.le_refl _) _)
 have ha0 : KAt (w.alloc (.cells kCells0 56)) w.heap.size kCells0:=zaf w _
 have HU : Hid (Tk.zhp s = 1 + Tk.zhp (s.drop 1)):=by
  show _ = _
  have hq : Tk.zhp s = Tk.zhp (s.drop 1) + 1:=znI s 0 hpos ht
  omega
 have HUl : Hid (Tk.zhp s ≤ s.length):=Tk.zmP s
 clear ht hs
 go_enter Tryz.func92,Tryz.ntmps92
 go_wp2
 generalize w.alloc (.cells kCells0 56) = W at *
 have c0:=h0.c0
 go_loopw [3] (fun i wr=>wr = W ∧ ∃ k : Nat,1 ≤ k ∧ k ≤ s.length ∧ i = .int .i64 k ∧ Hid (Tk.zhp s = k + Tk.zhp (s.drop k))) (fun i _=>s.length - (intOf i).toNat)
 case atStart=>exact ⟨rfl,1,Nat.le_refl _,hpos,rfl,HU⟩
 case round =>
  obtain ⟨hw,k,hk1,hk,rfl,HE⟩:=hrel
  replace hw:=hw.symm
  subst hw
  have he : (str s).extract k s.length = str (s.drop k):=zax s k
  by_cases hlt : k < s.length
  ·have hB:=zgJ (s.drop k) W
   cases hx : Tk.zca (s.drop k)
   ·rw [hx] at hB
    have HN : Hid (Tk.zhp s = (k + 1) + Tk.zhp (s.drop (k + 1))):=by
     show _ = _
     rw [HE.out,znI s k hlt hx]
     omega
    clear hx
    go_wp2_with (go_at_call 90;(try rw [he]);refine hB.mono ?_;rintro e w1 ⟨rfl,hw⟩;rw [hw];clear hw)
    go_roundw
    case rel=>exact ⟨by trivial,k + 1,by omega,by omega,by go_num,HN⟩
    case measure=>simp [intOf];omega
   ·rw [hx] at hB
    have HN : Hid (Tk.zhp s = k):=by
     show _ = _
     rw [HE.out,zpU _ hx]
     rfl
    clear hx HE
    have hT:=zbL k h0 hk
    have HP : Hid ((Tk.zb2 (Rf.dec false (s.take (Tk.zhp s))),s.drop (Tk.zhp s)) = (Tk.zb2 (Rf.dec false (s.take k)),s.drop k)):=by show _ = _;rw [HN.out]
    clear HN
    have HDe:=zaa (fun W (hW : Win W)=>zdj (s.take k) false W (by rw [List.length_take];omega) hW)
    generalize s.take k = x at hT HDe HP
    generalize Rf.dec false x = y at HDe HP
    go_wp2_with (first
     | (go_at_call 90;(try rw [he]);refine hB.mono ?_;rintro e w1 ⟨rfl,hw⟩;rw [hw];clear hw)
     | (go_at_call 120;refine hT.mono ?_;rintro e w2 ⟨rfl,h2,k2⟩;have r2:=ha0.kept k2 (by omega);have hk2:=hk0.trans k2)
     | (go_at_call 121;refine (HDe.out _ h2.env.1).mono ?_;rintro e w3 ⟨rfl,hb3⟩;have h3:=h2.step hb3;have r3:=r2.step hb3;have hk3:=hk2.trans (zby.of hb3))
     | (refine zat _ _ rfl rfl w.heap.size _ rfl 3 ByteArray.empty (str y) false none 0 0 rfl rfl r3 ?_))
    refine zcM rfl rfl rfl (za3 r3) ?_
    have k7:=zah w.heap.size w3 (zak 3 [] (.slice none 0 0) false y)
    unfold zaU
    rw [HP.out]
    exact ⟨none,0,0,rfl,zbd.nil _ _ _,h3.other k7 hbw (Nat.le_of_lt r3.lt),hk3.more k7 (Nat.le_refl _)⟩
  ·have HN : Hid (Tk.zhp s = k):=by
    show _ = _
    rw [HE.out,List.drop_eq_nil_of_le (by omega)]
    rfl
   clear HE
   have hT:=zbL k h0 hk
   have HP : Hid ((Tk.zb2 (Rf.dec false (s.take (Tk.zhp s))),s.drop (Tk.zhp s)) = (Tk.zb2 (Rf.dec false (s.take k)),s.drop k)):=by show _ = _;rw [HN.out]
   clear HN
   have HDe:=zaa (fun W (hW : Win W)=>zdj (s.take k) false W (by rw [List.length_take];omega) hW)
   generalize s.take k = x at hT HDe HP
   generalize Rf.dec false x = y at HDe HP
   go_wp2_with (first
    | (go_at_call 120;refine hT.mono ?_;rintro e w2 ⟨rfl,h2,k2⟩;have r2:=ha0.kept k2 (by omega);have hk2:=hk0.trans k2)
    | (go_at_call 121;refine (HDe.out _ h2.env.1).mono ?_;rintro e w3 ⟨rfl,hb3⟩;have h3:=h2.step hb3;have r3:=r2.step hb3;have hk3:=hk2.trans (zby.of hb3))
    | (refine zat _ _ rfl rfl w.heap.size _ rfl 3 ByteArray.empty (str y) false none 0 0 rfl rfl r3 ?_))
   refine zcM rfl rfl rfl (za3 r3) ?_
   have k7:=zah w.heap.size w3 (zak 3 [] (.slice none 0 0) false y)
   unfold zaU
   rw [HP.out]
   exact ⟨none,0,0,rfl,zbd.nil _ _ _,h3.other k7 hbw (Nat.le_of_lt r3.lt),hk3.more k7 (Nat.le_refl _)⟩
theorem zpY {b : Nat} {d : UInt8} {t a : List UInt8} {w : World} (h : Tr b (60 :: d :: t) a w) (hd : d ≠ 62) :
  Calls Tryz.prog 91 #[.pointer (some ⟨b,0,none⟩)] w (zaU b a w (zip (60 :: d :: t))):=by
 have hz:=(zero_of_info zjL).1
 have hbw:=h.lt
 have hlen:=h.len
 have h0:=h.step ((Below.refl _ w).alloc (Nat.le_refl _) (.cells kCells0 56))
 have hk0 : zby b w (w.alloc (.cells kCells0 56)):=zby.of ((Below.refl _ w).alloc (Nat.le_refl _) _)
 have ha0 : KAt (w.alloc (.cells kCells0 56)) w.heap.size kCells0:=zaf w _
 have hfd:=zr2 t 60 d (by decide) hd
 have hdt:=zlH (60 :: d :: t)
 have hfl:=zfD [62] t
 have HM : Hid (zip (60 :: d :: t) = (if Tk.zkD Tk.zrG (60 :: d :: t) = true then ⟨5,[],[],false,[]⟩ else ⟨4,[],[],false,t.take (Tk.fd [62] t)⟩,t.drop (Tk.fd [62] t + 1))):=rfl
 have hPa : ∀ W,Tr b (60 :: d :: t) a W → Calls Tryz.prog 89 #[.pointer (some ⟨b,0,none⟩),.string (str [62])] W fun e w'=>e = .returned (.string (str (60 :: d :: t.take (Tk.fd [62] t)))) ∧ Tr b (t.drop (Tk.fd [62] t + 1)) a w' ∧ zby b W w':=by
  intro W h
  have h1:=zhx [62] (by simp) h
  rw [hfd] at h1
  exact h1
 have HPa:=zaa hPa
 clear hPa
 rw [hfd] at hdt
 rw [show (60 :: d :: t).take (Tk.fd [62] t + 2) = 60 :: d :: t.take (Tk.fd [62] t) from rfl] at hdt
 have hxl : (t.take (Tk.fd [62] t)).length ≤ t.length:=by rw [List.length_take];omega
 generalize t.drop (Tk.fd [62] t + 1) = r at HPa HM
 generalize t.take (Tk.fd [62] t) = x at HPa hdt HM hxl
 rw [← hdt] at HM
 rw [List.length_cons,List.length_cons] at hlen
 have HI:=zaa (fun W=>zhs (60 :: d :: x) W (by rw [List.length_cons,List.length_cons];omega))
 have hsz : (str (60 :: d :: x)).size = x.length + 2:=zad _
 have he : (str (60 :: d :: x)).extract 2 (x.length + 2) = str x:=zax (60 :: d :: x) 2
 clear hdt hfd hd
 cases hx : Tk.zkD Tk.zrG (60 :: d :: x)
 ·rw [hx] at HI HM
  clear hx
  go_enter Tryz.func91,Tryz.ntmps91
  go_wp2_with fail
  generalize w.alloc (.cells kCells0 56) = W at *
  go_wp2_with (first
   | (go_at_call 89;refine (HPa.out _ h0).mono ?_;rintro e w2 ⟨rfl,h2,k2⟩;have r2:=ha0.kept k2 (by omega);have hk2:=hk0.trans k2)
   | (go_at_call 128;refine (HI.out _).mono ?_;rintro e w3 ⟨rfl,hb3⟩;have h3:=h2.step hb3;have r3:=r2.step hb3;have hk3:=hk2.trans (zby.of hb3))
   | (refine zat _ _ rfl rfl w.heap.size _ rfl 4 ByteArray.empty (str x) false none 0 0 rfl rfl r3 ?_))
  refine zcM rfl rfl rfl (za3 r3) ?_
  have k7:=zah w.heap.size w3 (zak 4 [] (.slice none 0 0) false x)
  unfold zaU
  rw [HM.out]
  exact ⟨none,0,0,rfl,zbd.nil _ _ _,h3.other k7 hbw (Nat.le_of_lt r3.lt),hk3.more k7 (Nat.le_refl _)⟩
 ·rw [hx] at HI HM
  clear hx
  go_enter Tryz.func91,Tryz.ntmps91
  go_wp2_with fail
  generalize w.alloc (.cells kCells0 56) = W at *
  go_wp2_with (first
   | (go_at_call 89;refine (HPa.out _ h0).mono ?_;rintro e w2 ⟨rfl,h2,k2⟩;have r2:=ha0.kept k2 (by omega);have hk2:=hk0.trans k2)
   | (go_at_call 128;refine (HI.out _).mono ?_;rintro e w3 ⟨rfl,hb3⟩;have h3:=h2.step hb3;have r3:=r2.step hb3;have hk3:=hk2.trans (zby.of hb3))
   | (refine zat _ _ rfl rfl w.heap.size _ rfl 5 ByteArray.empty ByteArray.empty false none 0 0 rfl rfl r3 ?_))
  refine zcM rfl rfl rfl (za3 r3) ?_
  have k7:=zah w.heap.size w3 (zak 5 [] (.slice none 0 0) false [])
  unfold zaU
  rw [HM.out]
  exact ⟨none,0,0,rfl,zbd.nil _ _ _,h3.other k7 hbw (Nat.le_of_lt r3.lt),hk3.more k7 (Nat.le_refl _)⟩
theorem zpZ (n q : List UInt8) (b : Bool) (h : (n == q) = b) : ((str n).toList == q) = b:=by rw [zaE];exact h
theorem zr9 {b : Nat} {n s a : List UInt8} {w : World} (k : Nat) (h : Tr b s a w) (hk : k ≤ s.length) :
  Calls Tryz.prog 84 #[.pointer (some ⟨b,0,none⟩),.string (str n),.int .i64 k] w (zaU b a w (Tk.zb2 (decT n (s.take k)),s.drop k)):=by
 have hz:=(zero_of_info zjL).1
 have hbw:=h.lt
 have hlen:=h.len
 have h0:=h.step ((Below.refl _ w).alloc (Nat.le_refl _) (.cells kCells0 56))
 have hk0 : zby b w (w.alloc (.cells kCells0 56)):=zby.of ((Below.refl _ w).alloc (Nat.le_refl _) _)
 have ha0 : KAt (w.alloc (.cells kCells0 56)) w.heap.size kCells0:=zaf w _
 have HPa:=zaa (fun W (h : Tr b s a W)=>zbL k h hk)
 have HDe:=zaa (fun W (hW : Win W)=>zdj (s.take k) false W (by rw [List.length_take];omega) hW)
 have HD : Hid (decT n (s.take k) = if (n == [116,101,120,116,97,114,101,97] || n == [116,105,116,108,101]) = true then Rf.dec false (s.take k) else s.take k):=rfl
 generalize s.take k = x at *
 generalize decT n x = z at *
 generalize Rf.dec false x = y at *
 generalize s.drop k = r at *
 have run : ∀ (v : Bool),(n == [116,101,120,116,97,114,101,97] || n == [116,105,116,108,101]) = v → v = true ∨ v = false:=fun v _=>by cases v <;> simp
 cases h1 : (n == [116,101,120,116,97,114,101,97])
 ·have q1:=zpZ n _ _ h1
  cases h2 : (n == [116,105,116,108,101])
  ·have q2:=zpZ n _ _ h2
   have HZ : Hid (z = x):=by show _ = _;rw [HD.out,h1,h2];rfl
   clear HD h1 h2 run
   go_enter Tryz.func84,Tryz.ntmps84
   go_wp2_with fail
   generalize w.alloc (.cells kCells0 56) = W at *
   go_wp2_with (first
    | (go_at_call 120;refine (HPa.out _ h0).mono ?_;rintro e w2 ⟨rfl,h2,k2⟩;have r2:=ha0.kept k2 (by omega);have hk2:=hk0.trans k2;have hb3 : Below w2.heap.size w2 (w2.alloc (.cells #[.int .i64 3,.string ByteArray.empty,.slice none 0 0,.bool false,.string (str x)] 56)):=(Below.refl _ _).alloc (Nat.le_refl _) _;have t3 : KAt (w2.alloc (.cells #[.int .i64 3,.string ByteArray.empty,.slice none 0 0,.bool false,.string (str x)] 56)) w2.heap.size (zak 3 [] (.slice none 0 0) false x):=zaf w2 _;have h3:=h2.step hb3;have r3:=r2.step hb3;have hk3:=hk2.trans (zby.of hb3))
    | (refine zaR _ rfl rfl w2.heap.size _ _ _ _ _ rfl t3 ?_)
    | (refine zat _ _ rfl rfl w.heap.size _ rfl 3 ByteArray.empty (str x) false none 0 0 rfl rfl r3 ?_))
   refine zcM rfl rfl rfl (za3 r3) ?_
   have k7:=zah w.heap.size (w2.alloc (.cells #[.int .i64 3,.string ByteArray.empty,.slice none 0 0,.bool false,.string (str x)] 56)) (zak 3 [] (.slice none 0 0) false x)
   unfold zaU
   rw [HZ.out]
   exact ⟨none,0,0,rfl,zbd.nil _ _ _,h3.other k7 hbw (Nat.le_of_lt r3.lt),hk3.more k7 (Nat.le_refl _)⟩
  ·have q2:=zpZ n _ _ h2
   have HZ : Hid (z = y):=by show _ = _;rw [HD.out,h1,h2];rfl
   clear HD h1 h2 run
   go_enter Tryz.func84,Tryz.ntmps84
   go_wp2_with fail
   generalize w.alloc (.cells kCells0 56) = W at *
   go_wp2_with (first
    | (go_at_call 120;refine (HPa.out _ h0).mono ?_;rintro e w2 ⟨rfl,h2,k2⟩;have r2:=ha0.kept k2 (by omega);have hk2:=hk0.trans k2;have hb3 : Below w2.heap.size w2 (w2.alloc (.cells #[.int .i64 3,.string ByteArray.empty,.slice none 0 0,.bool false,.string (str x)] 56)):=(Below.refl _ _).alloc (Nat.le_refl _) _;have t3 : KAt (w2.alloc (.cells #[.int .i64 3,.string ByteArray.empty,.slice none 0 0,.bool false,.string (str x)] 56)) w2.heap.size (zak 3 [] (.slice none 0 0) false x):=zaf w2 _;have h3:=h2.step hb3;have r3:=r2.step hb3;have hk3:=hk2.trans (zby.of hb3);have c4 : (w2.alloc (.cells #[.int .i64 3,.string ByteArray.empty,.slice none 0 0,.bool false,.string (str x)] 56)).cell? ⟨w2.heap.size,4,none⟩ = some (.string (str x)):=Lib.cell_of_heap t3 4))
   generalize (w2.alloc (.cells #[.int .i64 3,.string ByteArray.empty,.slice none 0 0,.bool false,.string (str x)] 56)) = W3 at *
   have hT2:=k2.size
   have hT3:=ha0.lt
   generalize w2.heap.size = T at *
   clear h0 hk0 ha0 h2 k2 r2 hk2 HPa hb3
   go_at_call 121
   refine (HDe.out _ h3.env.1).mono ?_
   rintro e w4 ⟨rfl,hb4⟩
   have h4:=h3.step hb4
   have r4:=r3.step hb4
   have t4:=t3.step hb4
   have hk4:=hk3.trans (zby.of hb4)
   have cc4 : w4.cell? ⟨T,4,none⟩ = some (.string (str x)):=Lib.cell_of_heap t4 4
   have ff4 : w4.frozen? ⟨T,4,none⟩ = false:=Lib.frozen_of_heap t4 4
   have k5 : zby T w4 (w4.setCell ⟨T,4,none⟩ (.string (str y))):=zby.set T 4 w4 _
   have t5 : KAt (w4.setCell ⟨T,4,none⟩ (.string (str y))) T (zak 3 [] (.slice none 0 0) false y):=Go.Joins.block_setCell t4 _
   have r5:=r4.kept k5 (by omega)
   have h5:=h4.other k5 (by omega) (Nat.le_of_lt t4.lt)
   have hk5:=hk4.more k5 (by omega)
   clear h3 r3 t3 hk3 c4 hb4
   go_wp2_with (first
    | (refine zaR _ rfl rfl T _ _ _ _ _ rfl t5 ?_)
    | (refine zat _ _ rfl rfl w.heap.size _ rfl 3 ByteArray.empty (str y) false none 0 0 rfl rfl r5 ?_))
   refine zcM rfl rfl rfl (za3 r5) ?_
   have k7:=zah w.heap.size (w4.setCell ⟨T,4,none⟩ (.string (str y))) (zak 3 [] (.slice none 0 0) false y)
   unfold zaU
   rw [HZ.out]
   exact ⟨none,0,0,rfl,zbd.nil _ _ _,h5.other k7 hbw (Nat.le_of_lt r5.lt),hk5.more k7 (Nat.le_refl _)⟩
 ·have q1:=zpZ n _ _ h1
  have HZ : Hid (z = y):=by show _ = _;rw [HD.out,h1];rfl
  clear HD h1 run
  go_enter Tryz.func84,Tryz.ntmps84
  go_wp2_with fail
  generalize w.alloc (.cells kCells0 56) = W at *
  go_wp2_with (first
   | (go_at_call 120;refine (HPa.out _ h0).mono ?_;rintro e w2 ⟨rfl,h2,k2⟩;have r2:=ha0.kept k2 (by omega);have hk2:=hk0.trans k2;have hb3 : Below w2.heap.size w2 (w2.alloc (.cells #[.int .i64 3,.string ByteArray.empty,.slice none 0 0,.bool false,.string (str x)] 56)):=(Below.refl _ _).alloc (Nat.le_refl _) _;have t3 : KAt (w2.alloc (.cells #[.int .i64 3,.string ByteArray.empty,.slice none 0 0,.bool false,.string (str x)] 56)) w2.heap.size (zak 3 [] (.slice none 0 0) false x):=zaf w2 _;have h3:=h2.step hb3;have r3:=r2.step hb3;have hk3:=hk2.trans (zby.of hb3);have c4 : (w2.alloc (.cells #[.int .i64 3,.string ByteArray.empty,.slice none 0 0,.bool false,.string (str x)] 56)).cell? ⟨w2.heap.size,4,none⟩ = some (.string (str x)):=Lib.cell_of_heap t3 4))
  generalize (w2.alloc (.cells #[.int .i64 3,.string ByteArray.empty,.slice none 0 0,.bool false,.string (str x)] 56)) = W3 at *
  have hT2:=k2.size
  have hT3:=ha0.lt
  generalize w2.heap.size = T at *
  clear h0 hk0 ha0 h2 k2 r2 hk2 HPa hb3
  go_at_call 121
  refine (HDe.out _ h3.env.1).mono ?_
  rintro e w4 ⟨rfl,hb4⟩
  have h4:=h3.step hb4
  have r4:=r3.step hb4
  have t4:=t3.step hb4
  have hk4:=hk3.trans (zby.of hb4)
  have cc4 : w4.cell? ⟨T,4,none⟩ = some (.string (str x)):=Lib.cell_of_heap t4 4
  have ff4 : w4.frozen? ⟨T,4,none⟩ = false:=Lib.frozen_of_heap t4 4
  have k5 : zby T w4 (w4.setCell ⟨T,4,none⟩ (.string (str y))):=zby.set T 4 w4 _
  have t5 : KAt (w4.setCell ⟨T,4,none⟩ (.string (str y))) T (zak 3 [] (.slice none 0 0) false y):=Go.Joins.block_setCell t4 _
  have r5:=r4.kept k5 (by omega)
  have h5:=h4.other k5 (by omega) (Nat.le_of_lt t4.lt)
  have hk5:=hk4.more k5 (by omega)
  clear h3 r3 t3 hk3 c4 hb4
  go_wp2_with (first
   | (refine zaR _ rfl rfl T _ _ _ _ _ rfl t5 ?_)
   | (refine zat _ _ rfl rfl w.heap.size _ rfl 3 ByteArray.empty (str y) false none 0 0 rfl rfl r5 ?_))
  refine zcM rfl rfl rfl (za3 r5) ?_
  have k7:=zah w.heap.size (w4.setCell ⟨T,4,none⟩ (.string (str y))) (zak 3 [] (.slice none 0 0) false y)
  unfold zaU
  rw [HZ.out]
  exact ⟨none,0,0,rfl,zbd.nil _ _ _,h5.other k7 hbw (Nat.le_of_lt r5.lt),hk5.more k7 (Nat.le_refl _)⟩
theorem ziq (m : List UInt8) (hm : m ≠ []) : ∀ l : List UInt8,(Lib.index l m = -1 ∧ Tk.fd m l = l.length) ∨ (Lib.index l m = (Tk.fd m l : Int) ∧ ∃ r,l.drop (Tk.fd m l) = m ++ r)
 | []=>by
  left
  cases m with
  | nil=>exact absurd rfl hm
  | cons a m=>exact ⟨rfl,rfl⟩
 | c :: t=>by
  rw [Lib.index,Tk.fd]
  cases hp : m.isPrefixOf (c :: t)
  ·simp only [Bool.false_eq_true,if_false]
   rcases ziq m hm t with ⟨h1,h2⟩ | ⟨h,r,hr⟩
   ·left
    rw [h1]
    exact ⟨rfl,by rw [h2];rfl⟩
   ·right
    have hq : ((Tk.fd m t : Int) == -1) = false:=by rw [beq_eq_false_iff_ne];omega
    rw [h,hq]
    exact ⟨by simp,r,hr⟩
  ·right
   obtain ⟨r,hr⟩:=List.isPrefixOf_iff_prefix.1 hp
   exact ⟨rfl,r,hr.symm⟩
theorem zp0 (n s : List UInt8) (k : Nat) (hk : k ≤ s.length) (h : Tk.zpr n s = k + Tk.zpr n (s.drop k)) :
  (Lib.index (s.drop k) [60,47] = -1 ∧ Tk.zpr n s = s.length) ∨ ∃ j : Nat,Lib.index (s.drop k) [60,47] = (j : Int) ∧ k + j + 2 ≤ s.length ∧ (ze7 n (s.drop (k + j + 2)) = true → Tk.zpr n s = k + j) ∧ (ze7 n (s.drop (k + j + 2)) = false → Tk.zpr n s = (k + j + 2) + Tk.zpr n (s.drop (k + j + 2))):=by
 have hf:=znJ n (s.drop k)
 rcases ziq [60,47] (by simp) (s.drop k) with ⟨h1,h2⟩ | ⟨h1,r,hr⟩
 ·left
  refine ⟨h1,?_⟩
  rw [h,hf,h2,List.drop_length,List.length_drop]
  show k + (s.length - k + 0) = s.length
  omega
 ·right
  generalize Tk.fd [60,47] (s.drop k) = j at *
  have hl:=congrArg List.length hr
  rw [List.length_append,List.length_drop,List.length_drop] at hl
  have hl2 : ([60,47] : List UInt8).length = 2:=rfl
  have hd : s.drop (k + j + 2) = r:=by
   have : ((s.drop k).drop j).drop 2 = r:=by rw [hr];rfl
   rwa [List.drop_drop,List.drop_drop] at this
  refine ⟨j,h1,by omega,?_,?_⟩
  ·intro he
   rw [hd] at he
   rw [h,hf,hr]
   show k + (j + Tk.zpr n (60 :: 47 :: r)) = k + j
   rw [znK n r he]
   omega
  ·intro he
   rw [hd] at he ⊢
   rw [h,hf,hr]
   show k + (j + Tk.zpr n (60 :: 47 :: r)) = _
   rw [zr3 n r he]
   omega
theorem zjN (n s : List UInt8) (w : World) (hE : zh2 w) (hl : Asc.zbJ n = n) (hn : n ≠ []) (hzn : n.length ≤ 1000000) (hz : s.length ≤ 1000000) :
  Calls Tryz.prog 83 #[.string (str n),.string (str s)] w fun e w'=>e = .returned (.int .i64 (Tk.zpr n s)) ∧ Below w.heap.size w w':=by
 have hne : ((str n).toList.isEmpty) = false:=by
  rw [zaE]
  cases n with
  | nil=>exact absurd rfl hn
  | cons c t=>rfl
 have hsz:=zad s
 have HEn:=zaa hE
 have HL:=zaa hl
 clear hn hE hl
 go_enter Tryz.func83,Tryz.ntmps83
 go_wp2
 go_loopw [5] (fun i wr=>∃ k : Nat,k ≤ s.length ∧ i = .int .i64 k ∧ Hid (Tk.zpr n s = k + Tk.zpr n (s.drop k)) ∧ Below w.heap.size w wr) (fun i _=>s.length - (intOf i).toNat)
 case atStart=>exact ⟨0,Nat.zero_le _,rfl,by show _ = _;rw [List.drop_zero];omega,Below.refl _ _⟩
 case round =>
  obtain ⟨k,hk,rfl,HE,hB⟩:=hrel
  have he : (str s).extract k s.length = str (s.drop k):=zax s k
  have hI:=zrT (s.drop k) [60,47] wr (HEn.out.below hB) (by rw [List.length_drop];omega)
  rcases zp0 n s k hk HE.out with ⟨h1,h2⟩ | ⟨j,h1,hj,h2,h3⟩
  ·rw [h1] at hI
   have HN:=zaa h2
   clear h1 h2 HE
   go_wp2_with (go_at_call 118;(try rw [he]);refine hI.mono ?_;rintro e w1 ⟨rfl,hw⟩;rw [hw];clear hw)
   go_ret
   exact ⟨by rw [HN.out];rfl,hB⟩
  ·rw [h1] at hI
   clear h1 HE
   have he2 : (str s).extract (k + j + 2) s.length = str (s.drop (k + j + 2)):=zax s _
   have hEn:=zjB n (s.drop (k + j + 2)) wr HL.out (by rw [List.length_drop];omega) (by omega)
   cases hx : ze7 n (s.drop (k + j + 2))
   ·have HN:=zaa (h3 hx)
    rw [hx] at hEn
    clear h2 h3 hx
    go_wp2_with (first
     | (go_at_call 118;(try rw [he]);refine hI.mono ?_;rintro e w1 ⟨rfl,hw⟩;rw [hw];clear hw)
     | (go_at_call 119;(try rw [he2]);refine hEn.mono ?_;rintro e w2 ⟨rfl,hb2⟩))
    go_roundw
    case rel=>exact ⟨k + j + 2,hj,by go_num,HN,bel hB hb2⟩
    case measure=>simp [intOf];omega
   ·have HN:=zaa (h2 hx)
    rw [hx] at hEn
    clear h2 h3 hx
    go_wp2_with (first
     | (go_at_call 118;(try rw [he]);refine hI.mono ?_;rintro e w1 ⟨rfl,hw⟩;rw [hw];clear hw)
     | (go_at_call 119;(try rw [he2]);refine hEn.mono ?_;rintro e w2 ⟨rfl,hb2⟩))
    go_ret
    exact ⟨by rw [HN.out];go_num,bel hB hb2⟩
theorem zir (s : List UInt8) (w : World) :
  Calls Tryz.prog 83 #[.string (str []),.string (str s)] w fun e w'=>e = .returned (.int .i64 (0 : Nat)) ∧ w' = w:=by
 have hne : ((str ([] : List UInt8)).toList.isEmpty) = true:=by rw [zaE];rfl
 go_enter Tryz.func83,Tryz.ntmps83
 go_wp2
 go_ret
 exact ⟨rfl,rfl⟩
end Go.Proofs.YtiodaahncadodaaGreatDoor
