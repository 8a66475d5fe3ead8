/- Texts laid as one. -/
import Derived.Test.YtiodaahncadodaaGreatDoorKRfM
set_option linter.unusedVariables false
set_option linter.unusedSimpArgs false
namespace Tre
abbrev Bs:=List UInt8
abbrev At:=Bs × Bs
structure Nd where
 kind : Int
 name : Bs
 attrs : List At
 text : Bs
 up : Int
 kids : List Int
theorem Nd.ext' {a b : Nd} (h1 : a.kind = b.kind) (h2 : a.name = b.name) (h3 : a.attrs = b.attrs) (h4 : a.text = b.text) (h5 : a.up = b.up) (h6 : a.kids = b.kids) : a = b:=by
 cases a
 cases b
 simp_all
def zeroN : Nd:=⟨0,[],[],[],0,[]⟩
def zaC (ns : List Nd) (i : Nat) : Nd:=(ns[i]?).getD zeroN
theorem zn3 {ns : List Nd} {i : Nat} {n : Nd} (h : ns[i]? = some n) : zaC ns i = n:=by unfold zaC;rw [h];rfl
theorem zkQ {ns : List Nd} {i : Nat} (h : i < ns.length) : ns[i]? = some (zaC ns i):=by
 unfold zaC
 rw [List.getElem?_eq_getElem h]
 rfl
def zgQ (a b : Nd) : Bool:=(a.kind == b.kind) && ((a.name == b.name) && (decide (a.attrs = b.attrs) && ((a.text == b.text) && ((a.up == b.up) && decide (a.kids = b.kids)))))
theorem zeH (a b : Nd) : zgQ a b = true ↔ a = b:=by
 constructor
 ·intro h
  unfold zgQ at h
  simp only [Bool.and_eq_true,beq_iff_eq,decide_eq_true_eq] at h
  exact Nd.ext' h.1 h.2.1 h.2.2.1 h.2.2.2.1 h.2.2.2.2.1 h.2.2.2.2.2
 ·rintro rfl
  simp [zgQ]
def ze8 : List Nd → List Nd → Bool
 | [],[]=>true
 | a :: as,b :: bs=>zgQ a b && ze8 as bs
 | _,_=>false
theorem zee : ∀ a b : List Nd,ze8 a b = true ↔ a = b
 | [],[]=>by simp [ze8]
 | [],b :: bs=>by simp [ze8]
 | a :: as,[]=>by simp [ze8]
 | a :: as,b :: bs=>by
  rw [ze8,Bool.and_eq_true,zeH,zee as bs]
  simp
theorem sameL_self (a : List Nd) : ze8 a a = true:=(zee a a).2 rfl
theorem zkR {a b : List Nd} (h : a ≠ b) : ze8 a b = false:=by
 cases hs : ze8 a b
 ·rfl
 ·exact absurd ((zee a b).1 hs) h
theorem sameL_len {a b : List Nd} (h : a.length ≠ b.length) : ze8 a b = false:=zkR (fun e=>h (by rw [e]))
theorem sameL_at {a b : List Nd} (i : Nat) (hi : i < a.length) (hj : i < b.length) (h : zgQ (zaC a i) (zaC b i) = false) : ze8 a b = false:=by
 refine zkR (fun e=>?_)
 subst e
 rw [(zeH _ _).2 rfl] at h
 cases h
theorem sameL_all {a b : List Nd} (hl : a.length = b.length) (h : ∀ i,i < a.length → zgQ (zaC a i) (zaC b i) = true) : ze8 a b = true:=by
 rw [zee]
 apply List.ext_getElem?
 intro i
 by_cases hi : i < a.length
 ·rw [zkQ hi,zkQ (by omega),(zeH _ _).1 (h i hi)]
 ·rw [List.getElem?_eq_none (by omega),List.getElem?_eq_none (by omega)]
def zef (n : Nd) : Bool:=(n.kind == 2) && (!(n.name == []) && (!(Tk.has n.attrs []) && (n.text == [])))
def zfU (n : Nd) : Bool:=(n.kind == 3) && ((n.name == []) && ((n.attrs.length == 0) && !(n.text == [])))
def zgw (n : Nd) : Bool:=(n.kind == 1) && ((n.up == -1) && ((n.name == []) && ((n.attrs.length == 0) && (n.text == []))))
def zil (ns : List Nd) (i : Nat) : Bool:=decide (0 ≤ (zaC ns i).up) && (decide ((zaC ns i).up < (i : Int)) && !((zaC ns (zaC ns i).up.toNat).kind == 3))
def zct (ns : List Nd) (i : Nat) : Bool:=if i = 0 then zgw (zaC ns 0) else zil ns i && (zef (zaC ns i) || zfU (zaC ns i))
def zaJ (ns : List Nd) (u : Nat) : Nat → List Int
 | 0=>[]
 | n + 1=>zaJ ns u n ++ (if (zaC ns n).up = (u : Int) then [(n : Int)] else [])
def zlO (ns : List Nd) (i : Nat) : Bool:=decide ((zaC ns i).kids = zaJ ns i ns.length)
def zfV (p : Nat → Bool) : Nat → Bool
 | 0=>true
 | n + 1=>zfV p n && p n
theorem zeg (p : Nat → Bool) : ∀ n,zfV p n = true ↔ ∀ i,i < n → p i = true
 | 0=>by simp [zfV]
 | n + 1=>by
  rw [zfV,Bool.and_eq_true,zeg p n]
  constructor
  ·intro h i hi
   rcases Nat.lt_succ_iff_lt_or_eq.1 hi with h1 | rfl
   ·exact h.1 i h1
   ·exact h.2
  ·intro h
   exact ⟨fun i hi=>h i (by omega),h n (by omega)⟩
theorem zkS (p : Nat → Bool) {n i : Nat} (hi : i < n) (h : p i = false) : zfV p n = false:=by
 cases ha : zfV p n
 ·rfl
 ·rw [(zeg p n).1 ha i hi] at h
  cases h
def zh3 (ns : List Nd) : Bool:=(decide (1 ≤ ns.length) && decide (ns.length ≤ 4096)) && (zfV (zct ns) ns.length && zfV (zlO ns) ns.length)
theorem zeh (ns : List Nd) : zh3 ns = true ↔ (1 ≤ ns.length ∧ ns.length ≤ 4096) ∧ (∀ i,i < ns.length → zct ns i = true) ∧ (∀ i,i < ns.length → zlO ns i = true):=by
 unfold zh3
 simp only [Bool.and_eq_true,decide_eq_true_eq,zeg]
theorem zp2 {ns : List Nd} {i : Nat} (hi : i < ns.length) (h : zct ns i = false) : zh3 ns = false:=by
 cases hm : zh3 ns
 ·rfl
 ·rw [((zeh ns).1 hm).2.1 i hi] at h
  cases h
theorem zse {ns : List Nd} (h : ns.length = 0 ∨ 4096 < ns.length) : zh3 ns = false:=by
 cases hm : zh3 ns
 ·rfl
 ·have:=((zeh ns).1 hm).1
  omega
theorem zp3 {ns : List Nd} (h : 1 ≤ ns.length ∧ ns.length ≤ 4096) (h1 : ∀ i,i < ns.length → zct ns i = true) (h2 : ∀ i,i < ns.length → zlO ns i = true) : zh3 ns = true:=(zeh ns).2 ⟨h,h1,h2⟩
theorem zn4 (ns : List Nd) (u : Nat) : ∀ n,(zaJ ns u n).length ≤ n
 | 0=>Nat.le_refl _
 | n + 1=>by
  have:=zn4 ns u n
  rw [zaJ,List.length_append]
  split <;> simp <;> omega
theorem zdl (ns : List Nd) (u : Nat) (k : Int) : ∀ n,k ∈ zaJ ns u n → ∃ i : Nat,k = (i : Int) ∧ i < n ∧ (zaC ns i).up = (u : Int)
 | 0,h=>by cases h
 | n + 1,h=>by
  rw [zaJ,List.mem_append] at h
  rcases h with h | h
  ·obtain ⟨i,h1,h2,h3⟩:=zdl ns u k n h
   exact ⟨i,h1,by omega,h3⟩
  ·split at h
   ·rename_i hu
    rw [List.mem_singleton] at h
    exact ⟨n,h,by omega,hu⟩
   ·cases h
theorem zgR (ns : List Nd) (u : Nat) : ∀ m n,n ≤ m → zaJ ns u n = (zaJ ns u m).take (zaJ ns u n).length
 | 0,n,h=>by
  have : n = 0:=by omega
  subst this
  rfl
 | m + 1,n,h=>by
  by_cases he : n = m + 1
  ·subst he
   rw [List.take_length]
  ·have hp:=zgR ns u m n (by omega)
   conv=>rhs;rw [zaJ]
   rw [List.take_append_of_le_length]
   ·exact hp
   ·have:=congrArg List.length hp
    rw [List.length_take] at this
    omega
theorem ziG {ns : List Nd} (h : zh3 ns = true) {i : Nat} (hi : i < ns.length) : zct ns i = true:=((zeh ns).1 h).2.1 i hi
theorem zp4 {ns : List Nd} (h : zh3 ns = true) {i : Nat} (hi : i < ns.length) : (zaC ns i).kids = zaJ ns i ns.length:=of_decide_eq_true (((zeh ns).1 h).2.2 i hi)
theorem may_up {ns : List Nd} (h : zh3 ns = true) {i : Nat} (hi : i < ns.length) (h0 : i ≠ 0) : 0 ≤ (zaC ns i).up ∧ (zaC ns i).up < (i : Int):=by
 have hs:=ziG h hi
 unfold zct zil at hs
 rw [if_neg h0] at hs
 simp only [Bool.and_eq_true,decide_eq_true_eq] at hs
 exact ⟨hs.1.1,hs.1.2.1⟩
theorem zn5 {ns : List Nd} (h : zh3 ns = true) {i : Nat} (hi : i < ns.length) {k : Int} (hk : k ∈ (zaC ns i).kids) : ∃ j : Nat,k = (j : Int) ∧ i < j ∧ j < ns.length ∧ (zaC ns j).up = (i : Int):=by
 rw [zp4 h hi] at hk
 obtain ⟨j,h1,h2,h3⟩:=zdl ns i k ns.length hk
 by_cases hj : j = 0
 ·subst hj
  have hs:=ziG h (i:=0) (by omega)
  unfold zct zgw at hs
  simp only [if_true,Bool.and_eq_true,beq_iff_eq] at hs
  rw [hs.2.1] at h3
  omega
 ·have:=may_up h h2 hj
  exact ⟨j,h1,by omega,h2,h3⟩
def zjj (ns : List Nd) : Nat → Nat → Nat
 | 0,_=>0
 | f + 1,i=>if i = 0 then 0 else zjj ns f (zaC ns i).up.toNat + 1
def dep (ns : List Nd) (i : Nat) : Nat:=zjj ns i i
theorem zn6 {ns : List Nd} (h : ∀ i,i < ns.length → i ≠ 0 → 0 ≤ (zaC ns i).up ∧ (zaC ns i).up < (i : Int)) : ∀ f i,i < ns.length → i ≤ f → zjj ns f i = dep ns i:=by
 intro f
 induction f using Nat.strongRecOn with
 | ind f ih =>
  intro i hi hf
  cases f with
  | zero =>
   have : i = 0:=by omega
   subst this
   rfl
  | succ f =>
   by_cases h0 : i = 0
   ·subst h0
    rfl
   ·obtain ⟨h1,h2⟩:=h i hi h0
    have e1 : zjj ns (f + 1) i = zjj ns f (zaC ns i).up.toNat + 1:=by rw [zjj,if_neg h0]
    obtain ⟨j,hj⟩ : ∃ j,i = j + 1:=⟨i - 1,by omega⟩
    have e2 : dep ns i = zjj ns j (zaC ns i).up.toNat + 1:=by
     unfold dep
     conv=>lhs;rw [hj,zjj,if_neg (by omega),← hj]
    rw [e1,e2,ih f (by omega) _ (by omega) (by omega)]
    by_cases hjf : j < f + 1
    ·rw [ih j hjf _ (by omega) (by omega)]
    ·omega
theorem dep_zero (ns : List Nd) : dep ns 0 = 0:=rfl
theorem zq7 {ns : List Nd} (h : ∀ i,i < ns.length → i ≠ 0 → 0 ≤ (zaC ns i).up ∧ (zaC ns i).up < (i : Int)) {i : Nat} (hi : i < ns.length) (h0 : i ≠ 0) : dep ns i = dep ns (zaC ns i).up.toNat + 1:=by
 obtain ⟨h1,h2⟩:=h i hi h0
 obtain ⟨j,hj⟩ : ∃ j,i = j + 1:=⟨i - 1,by omega⟩
 have e2 : dep ns i = zjj ns j (zaC ns i).up.toNat + 1:=by
  unfold dep
  conv=>lhs;rw [hj,zjj,if_neg (by omega),← hj]
 rw [e2,zn6 h j _ (by omega) (by omega)]
def maxD (ns : List Nd) : Nat → Nat
 | 0=>0
 | n + 1=>max (maxD ns n) (dep ns n)
def deepN (ns : List Nd) : Nat:=if zh3 ns = true then maxD ns ns.length else 0
theorem zn7 (ns : List Nd) (m : Nat) : ∀ n,(∀ i,i < n → dep ns i ≤ m) → maxD ns n ≤ m
 | 0,_=>Nat.zero_le _
 | n + 1,h=>by
  rw [maxD]
  exact Nat.max_le.2 ⟨zn7 ns m n (fun i hi=>h i (by omega)),h n (by omega)⟩
theorem dep_le (ns : List Nd) (f : Nat) : ∀ i,zjj ns f i ≤ f:=by
 induction f with
 | zero=>intro i;exact Nat.le_refl _
 | succ f ih =>
  intro i
  rw [zjj]
  split
  ·exact Nat.zero_le _
  ·have:=ih (zaC ns i).up.toNat
   omega
def voidNames : List Bs:=[[97,114,101,97],[98,97,115,101],[98,114],[99,111,108],[101,109,98,101,100],[104,114],[105,109,103],[105,110,112,117,116],[108,105,110,107],[109,101,116,97],[112,97,114,97,109],[115,111,117,114,99,101],[116,114,97,99,107],[119,98,114]]
def blockNames : List Bs:=[[97,100,100,114,101,115,115],[97,114,116,105,99,108,101],[97,115,105,100,101],[98,108,111,99,107,113,117,111,116,101],[100,101,116,97,105,108,115],[100,105,118],[100,108],[102,105,101,108,100,115,101,116],[102,105,103,117,114,101],[102,111,111,116,101,114],[102,111,114,109],[104,49],[104,50],[104,51],[104,52],[104,53],[104,54],[104,101,97,100,101,114],[104,114],[109,97,105,110],[110,97,118],[111,108],[112],[112,114,101],[115,101,99,116,105,111,110],[116,97,98,108,101],[117,108]]
def zgS (n : Bs) : Bool:=voidNames.contains n
def zsf (n : Bs) : Bool:=blockNames.contains n
def script : Bs:=[115,99,114,105,112,116]
def style : Bs:=[115,116,121,108,101]
def rawB (ns : List Nd) (n : Nd) : Bool:=decide (0 ≤ n.up) && ((zaC ns n.up.toNat).name == script || (zaC ns n.up.toNat).name == style)
def zkT (n : Nd) : Tk.Tok:=⟨1,n.name,n.attrs,false,[]⟩
def zq8 (n : Nd) : Tk.Tok:=⟨2,n.name,[],false,[]⟩
def zdD (ns : List Nd) : Nat → Int → Bs
 | 0,_=>[]
 | f + 1,i =>
  if (zaC ns i.toNat).kind = 3 then (if rawB ns (zaC ns i.toNat) = true then (zaC ns i.toNat).text else Rf.enc false (zaC ns i.toNat).text)
  else Tk.zaX (zkT (zaC ns i.toNat)) ++ ((zaC ns i.toNat).kids.flatMap (zdD ns f) ++ (if zgS (zaC ns i.toNat).name = true then [] else Tk.zaX (zq8 (zaC ns i.toNat))))
def zcr (ns : List Nd) (i : Nat) : Bs:=zdD ns (ns.length - i) i
def zn8 (ns : List Nd) (i : Nat) : Bs:=(zaC ns i).kids.flatMap fun k=>zcr ns k.toNat
theorem zdE {α β : Type} {f g : α → List β} {l : List α} (h : ∀ x ∈ l,f x = g x) : l.flatMap f = l.flatMap g:=by
 induction l with
 | nil=>rfl
 | cons a l ih =>
  rw [List.flatMap_cons,List.flatMap_cons,h a (List.mem_cons_self ..),ih (fun x hx=>h x (List.mem_cons_of_mem _ hx))]
theorem zjX {ns : List Nd} (h : zh3 ns = true) : ∀ f i,i < ns.length → ns.length - i ≤ f → zdD ns f (i : Int) = zcr ns i:=by
 intro f
 induction f using Nat.strongRecOn with
 | ind f ih =>
  intro i hi hf
  unfold zcr
  obtain ⟨g,hg⟩ : ∃ g,ns.length - i = g + 1:=⟨ns.length - i - 1,by omega⟩
  cases f with
  | zero=>omega
  | succ f =>
   rw [hg,zdD,zdD]
   have hk : (zaC ns i).kids.flatMap (zdD ns f) = (zaC ns i).kids.flatMap (zdD ns g):=zdE fun k hk=>by
    obtain ⟨j,rfl,h1,h2,_⟩:=zn5 h hi hk
    rw [ih f (by omega) j h2 (by omega)]
    by_cases hgf : g < f + 1
    ·rw [ih g hgf j h2 (by omega)]
    ·omega
   have e : ((i : Int)).toNat = i:=by omega
   simp only [e]
   rw [hk]
theorem ziH {ns : List Nd} (h : zh3 ns = true) {i : Nat} (hi : i < ns.length) (hk : (zaC ns i).kind = 3) : zcr ns i = if rawB ns (zaC ns i) = true then (zaC ns i).text else Rf.enc false (zaC ns i).text:=by
 unfold zcr
 obtain ⟨g,hg⟩ : ∃ g,ns.length - i = g + 1:=⟨ns.length - i - 1,by omega⟩
 have e : ((i : Int)).toNat = i:=by omega
 rw [hg,zdD]
 simp only [e]
 rw [if_pos hk]
theorem zfW {ns : List Nd} (h : zh3 ns = true) {i : Nat} (hi : i < ns.length) (hk : (zaC ns i).kind ≠ 3) : zcr ns i = Tk.zaX (zkT (zaC ns i)) ++ (zn8 ns i ++ (if zgS (zaC ns i).name = true then [] else Tk.zaX (zq8 (zaC ns i)))):=by
 unfold zcr
 obtain ⟨g,hg⟩ : ∃ g,ns.length - i = g + 1:=⟨ns.length - i - 1,by omega⟩
 have e : ((i : Int)).toNat = i:=by omega
 rw [hg,zdD]
 simp only [e]
 rw [if_neg hk]
 have : (zaC ns i).kids.flatMap (zdD ns g) = zn8 ns i:=zdE fun k hk=>by
  obtain ⟨j,rfl,h1,h2,_⟩:=zn5 h hi hk
  rw [zjX h g j h2 (by omega)]
  have e : ((j : Int)).toNat = j:=by omega
  rw [e]
 rw [this]
def zgT (ns : List Nd) (i : Nat) : Bs:=if (zaC ns i).kind = 3 then zcr ns i else zn8 ns i
def zq9 (ns : List Nd) (at_ : Int) : Bs × Nat :=
 if zh3 ns = true ∧ 0 ≤ at_ ∧ at_ < (ns.length : Int) then (if (zgT ns at_.toNat).length ≤ 262144 then (zgT ns at_.toNat,0) else ([],5)) else ([],5)
def root : Nd:=⟨1,[],[],[],-1,[]⟩
structure St where
 nodes : List Nd
 opn : List Nat
def start0 : St:=⟨[root],[0]⟩
def zgU (n : Bs) : List Bs × List Bs :=
 if n = [108,105] then ([[108,105]],[[111,108],[117,108]])
 else if n = [100,116] then ([[100,116],[100,100]],[[100,108]])
 else if n = [100,100] then ([[100,116],[100,100]],[[100,108]])
 else if n = [111,112,116,105,111,110] then ([[111,112,116,105,111,110]],[[115,101,108,101,99,116]])
 else if n = [116,114] then ([[116,114]],[[116,97,98,108,101]])
 else if n = [116,100] then ([[116,100],[116,104]],[[116,114],[116,97,98,108,101]])
 else if n = [116,104] then ([[116,100],[116,104]],[[116,114],[116,97,98,108,101]])
 else if zsf n = true then ([[112]],[[98,117,116,116,111,110],[116,97,98,108,101],[116,100],[116,104],[108,105],[111,98,106,101,99,116]])
 else ([],[])
def zdw (ns : List Nd) (op : List Nat) (zaH walls : List Bs) : Nat → Nat
 | 0=>op.length
 | 1=>op.length
 | k + 2=>if zaH.contains (zaC ns ((op[k + 1]?).getD 0)).name = true then k + 1 else if walls.contains (zaC ns ((op[k + 1]?).getD 0)).name = true then op.length else zdw ns op zaH walls (k + 1)
def zsg (b : St) (zaH walls : List Bs) : St:=⟨b.nodes,b.opn.take (zdw b.nodes b.opn zaH walls b.opn.length)⟩
def top (b : St) : Nat:=b.opn.getLastD 0
def lay (b : St) (n : Nd) : Except Nat St :=
 if 4096 ≤ b.nodes.length then .error 5
 else if 64 < b.opn.length then .error 8
 else .ok ⟨b.nodes.modify (top b) (fun m=>{ m with kids:=m.kids ++ [(b.nodes.length : Int)] }) ++ [{ n with up:=(top b : Int) }],b.opn⟩
def zsh : Bs:=[104,116,109,108]
def body : Bs:=[98,111,100,121]
def table : Bs:=[116,97,98,108,101]
def isHB (n : Bs) : Bool:=n == zsh || n == body
def zei (ns : List Nd) (n : Bs) : Option Nat:=ns.findIdx? fun m=>m.kind == 2 && m.name == n
def zgV (as bs : List At) : List At:=bs.foldl Tk.add as
def zra (ns : List Nd) (n : Bs) : Option Nat:=if isHB n = true then zei ns n else none
def ziI (b : St) (n : Bs) (as : List At) : Except Nat St :=
 match zra b.nodes n with
 | some i=>.ok ⟨b.nodes.modify i (fun m=>{ m with attrs:=zgV m.attrs as }),b.opn⟩
 | none =>
  match lay (zsg b (zgU n).1 ((zgU n).2 ++ [body,zsh])) ⟨2,n,as,[],0,[]⟩ with
  | .error e=>.error e
  | .ok b2=>.ok (if zgS n = true then b2 else ⟨b2.nodes,b2.opn ++ [b.nodes.length]⟩)
def zn9 (b : St) (x : Bs) : Except Nat St :=
 match (zaC b.nodes (top b)).kids.getLast? with
 | some i=>if (zaC b.nodes i.toNat).kind = 3 then .ok ⟨b.nodes.modify i.toNat (fun m=>{ m with text:=m.text ++ x }),b.opn⟩ else lay b ⟨3,[],[],x,0,[]⟩
 | none=>lay b ⟨3,[],[],x,0,[]⟩
def endW (n : Bs) : List Bs:=if n = table then [] else if n = zsh then [] else if n = body then [] else [table]
def endT (b : St) (n : Bs) : St:=zsg b [n] (endW n)
def step (b : St) (k : Tk.Tok) : Except Nat St :=
 if k.kind = 1 then ziI b k.name k.attrs else if k.kind = 2 then .ok (endT b k.name) else if k.kind = 3 then zn9 b k.text else .ok b
def zoa : List Tk.Tok → St → Except Nat St
 | [],b=>.ok b
 | k :: ks,b=>match step b k with
  | .error e=>.error e
  | .ok b2=>zoa ks b2
def zob (ks : List Tk.Tok) : Except Nat (List Nd):=match zoa ks start0 with
 | .error e=>.error e
 | .ok b=>.ok b.nodes
structure Ok (b : St) (M : Nat) : Prop where
 len : 1 ≤ b.nodes.length ∧ b.nodes.length ≤ 4096
 op1 : 1 ≤ b.opn.length ∧ b.opn.length ≤ 65
 opin : ∀ x ∈ b.opn,x < b.nodes.length
 kids : ∀ n ∈ b.nodes,n.kids.length ≤ b.nodes.length ∧ ∀ k ∈ n.kids,0 ≤ k ∧ k < (b.nodes.length : Int)
 ats : ∀ n ∈ b.nodes,n.attrs.length ≤ 64
 tx : ∀ n ∈ b.nodes,n.text.length ≤ M
theorem ok_start : Ok start0 0:=by
 refine ⟨by decide,by decide,by decide,?_,?_,?_⟩ <;> intro n hn <;> simp [start0] at hn <;> subst hn <;> simp [root]
theorem Ok.more {b : St} {M N : Nat} (h : Ok b M) (hN : M ≤ N) : Ok b N:=⟨h.len,h.op1,h.opin,h.kids,h.ats,fun n hn=>Nat.le_trans (h.tx n hn) hN⟩
theorem zcg {α : Type} {l : List α} {i : Nat} {f : α → α} {x : α} (h : x ∈ l.modify i f) : x ∈ l ∨ ∃ y ∈ l,x = f y:=by
 rw [List.mem_iff_getElem?] at h
 obtain ⟨j,hj⟩:=h
 rw [List.getElem?_modify] at hj
 cases hl : l[j]? with
 | none=>rw [hl] at hj;simp at hj
 | some y =>
  rw [hl] at hj
  have hy:=List.mem_of_getElem? hl
  by_cases e : i = j
  ·simp [e] at hj
   exact .inr ⟨y,hy,hj.symm⟩
  ·simp [e] at hj
   subst hj
   exact .inl hy
theorem top_in {b : St} {M : Nat} (h : Ok b M) : top b < b.nodes.length:=by
 have h1:=h.op1.1
 unfold top
 rw [List.getLastD_eq_getLast?,List.getLast?_eq_getElem?,List.getElem?_eq_getElem (by omega)]
 exact h.opin _ (List.getElem_mem _)
theorem zrb {b b2 : St} {n : Nd} {M : Nat} (h : Ok b M) (hn : n.kids = []) (ha : n.attrs.length ≤ 64) (ht : n.text.length ≤ M) (hl : lay b n = .ok b2) : Ok b2 M ∧ b2.opn = b.opn ∧ b2.nodes.length = b.nodes.length + 1 ∧ b.opn.length ≤ 64:=by
 unfold lay at hl
 split at hl
 ·cases hl
 rename_i h1
 split at hl
 ·cases hl
 rename_i h2
 cases hl
 have hlen : (b.nodes.modify (top b) (fun m=>{ m with kids:=m.kids ++ [(b.nodes.length : Int)] }) ++ [{ n with up:=(top b : Int) }]).length = b.nodes.length + 1:=by simp
 refine ⟨⟨⟨by rw [hlen];omega,by rw [hlen];omega⟩,h.op1,fun x hx=>by rw [hlen];have:=h.opin x hx;omega,?_,?_,?_⟩,rfl,hlen,by omega⟩
 ·intro m hm
  simp only at hm
  rw [hlen]
  rcases List.mem_append.1 hm with hm | hm
  ·rcases zcg hm with hm | ⟨y,hy,rfl⟩
   ·have:=h.kids m hm
    exact ⟨by omega,fun k hk=>by have:=this.2 k hk;omega⟩
   ·have:=h.kids y hy
    refine ⟨by rw [List.length_append,List.length_singleton];omega,fun k hk=>?_⟩
    rcases List.mem_append.1 hk with hk | hk
    ·have:=this.2 k hk
     omega
    ·rw [List.mem_singleton] at hk
     subst hk
     omega
  ·rw [List.mem_singleton] at hm
   subst hm
   simp only
   rw [hn]
   exact ⟨by simp,by simp⟩
 ·intro m hm
  simp only at hm
  rcases List.mem_append.1 hm with hm | hm
  ·rcases zcg hm with hm | ⟨y,hy,rfl⟩
   ·exact h.ats m hm
   ·exact h.ats y hy
  ·rw [List.mem_singleton] at hm
   subst hm
   exact ha
 ·intro m hm
  simp only at hm
  rcases List.mem_append.1 hm with hm | hm
  ·rcases zcg hm with hm | ⟨y,hy,rfl⟩
   ·exact h.tx m hm
   ·exact h.tx y hy
  ·rw [List.mem_singleton] at hm
   subst hm
   exact ht
theorem zhG (ns : List Nd) (op : List Nat) (zaH walls : List Bs) : ∀ k,1 ≤ op.length → 1 ≤ zdw ns op zaH walls k
 | 0,h=>h
 | 1,h=>h
 | k + 2,h=>by
  rw [zdw]
  split
  ·omega
  split
  ·exact h
  ·exact zhG ns op zaH walls (k + 1) h
theorem zoc {b : St} {M : Nat} (h : Ok b M) (zaH walls : List Bs) : Ok (zsg b zaH walls) M:=by
 have h1:=zhG b.nodes b.opn zaH walls b.opn.length h.op1.1
 have h2:=h.op1
 refine ⟨h.len,?_,fun x hx=>h.opin x (List.mem_of_mem_take hx),h.kids,h.ats,h.tx⟩
 show 1 ≤ (b.opn.take _).length ∧ (b.opn.take _).length ≤ 65
 rw [List.length_take]
 omega
theorem ok_end {b : St} {M : Nat} (h : Ok b M) (n : Bs) : Ok (endT b n) M:=zoc h _ _
theorem ziJ {b : St} {M : Nat} (h : Ok b M) (i : Nat) (f : Nd → Nd) (hk : ∀ m,(f m).kids = m.kids) (ha : ∀ m ∈ b.nodes,(f m).attrs.length ≤ 64) (N : Nat) (hN : M ≤ N) (ht : ∀ m ∈ b.nodes,(f m).text.length ≤ N) : Ok ⟨b.nodes.modify i f,b.opn⟩ N:=by
 have hlen : (b.nodes.modify i f).length = b.nodes.length:=by simp
 refine ⟨by rw [hlen];exact h.len,h.op1,fun x hx=>by rw [hlen];exact h.opin x hx,?_,?_,?_⟩
 ·intro m hm
  simp only at hm
  rw [hlen]
  rcases zcg hm with hm | ⟨y,hy,rfl⟩
  ·exact h.kids m hm
  ·rw [hk]
   exact h.kids y hy
 ·intro m hm
  simp only at hm
  rcases zcg hm with hm | ⟨y,hy,rfl⟩
  ·exact h.ats m hm
  ·exact ha y hy
 ·intro m hm
  simp only at hm
  rcases zcg hm with hm | ⟨y,hy,rfl⟩
  ·exact Nat.le_trans (h.tx m hm) hN
  ·exact ht y hy
theorem zjK (as : List At) (a : At) (h : as.length ≤ 64) : (Tk.add as a).length ≤ 64:=by
 unfold Tk.add
 split
 ·rename_i hc
  rw [List.length_append,List.length_singleton]
  omega
 ·exact h
theorem zgW : ∀ (bs as : List At),as.length ≤ 64 → (zgV as bs).length ≤ 64
 | [],as,h=>h
 | b :: bs,as,h=>zgW bs (Tk.add as b) (zjK as b h)
theorem zsi {b b2 : St} {M : Nat} (x : Bs) (h : Ok b M) (hs : zn9 b x = .ok b2) : Ok b2 (M + x.length):=by
 unfold zn9 at hs
 have hl : ∀ b2,lay b ⟨3,[],[],x,0,[]⟩ = .ok b2 → Ok b2 (M + x.length):=fun b2 hs=>(zrb (h.more (Nat.le_add_right M x.length)) rfl (by simp) (by simp) hs).1
 split at hs
 ·split at hs
  ·cases hs
   exact ziJ h _ (fun m=>{ m with text:=m.text ++ x }) (fun _=>rfl) (fun m hm=>h.ats m hm) (M + x.length) (by omega) (fun m hm=>by have:=h.tx m hm;show (m.text ++ x).length ≤ _;rw [List.length_append];omega)
  ·exact hl b2 hs
 ·exact hl b2 hs
theorem zod {b b2 : St} {M : Nat} (n : Bs) (as : List At) (ha : as.length ≤ 64) (h : Ok b M) (hs : ziI b n as = .ok b2) : Ok b2 M:=by
 unfold ziI at hs
 split at hs
 ·cases hs
  exact ziJ h _ (fun m=>{ m with attrs:=zgV m.attrs as }) (fun _=>rfl) (fun m hm=>zgW as m.attrs (h.ats m hm)) _ (Nat.le_refl _) (fun m hm=>h.tx m hm)
 ·split at hs
  ·cases hs
  ·rename_i b3 e
   obtain ⟨h3,h4,h5,h6⟩:=zrb (zoc h _ _) rfl ha (Nat.zero_le _) e
   cases hs
   split
   ·exact h3
   ·refine ⟨h3.len,?_,?_,h3.kids,h3.ats,h3.tx⟩
    ·show 1 ≤ (b3.opn ++ [b.nodes.length]).length ∧ _
     rw [List.length_append,List.length_singleton,h4]
     omega
    ·intro x hx
     show x < b3.nodes.length
     rcases List.mem_append.1 hx with hx | hx
     ·exact h3.opin x hx
     ·rw [List.mem_singleton] at hx
      subst hx
      rw [h5]
      exact Nat.lt_succ_self _
theorem ok_step {b b2 : St} {M : Nat} (k : Tk.Tok) (ha : k.attrs.length ≤ 64) (h : Ok b M) (hs : step b k = .ok b2) : Ok b2 (M + k.text.length):=by
 unfold step at hs
 split at hs
 ·exact (zod _ _ ha h hs).more (Nat.le_add_right _ _)
 split at hs
 ·cases hs
  exact (ok_end h _).more (Nat.le_add_right _ _)
 split at hs
 ·exact zsi _ h hs
 ·cases hs
  exact h.more (Nat.le_add_right _ _)
theorem ziK (ns : List Nd) (i : Nat) (f : Nd → Nd) (n : Bs) (hk : ∀ m,(f m).kind = m.kind ∧ (f m).name = m.name) : zei (ns.modify i f) n = zei ns n:=by
 unfold zei
 induction ns generalizing i with
 | nil=>cases i <;> simp
 | cons a ns ih =>
  cases i with
  | zero =>
   simp only [List.modify_zero_cons,List.findIdx?_cons]
   rw [(hk a).1,(hk a).2]
  | succ i =>
   simp only [List.modify_succ_cons,List.findIdx?_cons]
   rw [ih]
theorem ziL (ns : List Nd) (m : Nd) (n : Bs) : zei (ns ++ [m]) n = match zei ns n with
  | some i=>some i
  | none=>if m.kind == 2 && m.name == n then some ns.length else none:=by
 unfold zei
 rw [List.findIdx?_append]
 cases h : List.findIdx? (fun m=>m.kind == 2 && m.name == n) ns with
 | some i=>rfl
 | none =>
  simp only [Option.none_or,List.findIdx?_cons,List.findIdx?_nil]
  split <;> simp
theorem findN_some {ns : List Nd} {n : Bs} {i : Nat} (h : zei ns n = some i) : i < ns.length:=by
 unfold zei at h
 rw [List.findIdx?_eq_some_iff_getElem] at h
 exact h.1
theorem lay_first {b b2 : St} {m : Nd} (h : lay b m = .ok b2) (n : Bs) : zei b2.nodes n = match zei b.nodes n with
  | some i=>some i
  | none=>if m.kind == 2 && m.name == n then some b.nodes.length else none:=by
 unfold lay at h
 split at h
 ·cases h
 split at h
 ·cases h
 cases h
 show zei (b.nodes.modify _ _ ++ [_]) n = _
 rw [ziL,ziK b.nodes (top b) (fun m=>{ m with kids:=m.kids ++ [(b.nodes.length : Int)] }) n (fun m=>⟨rfl,rfl⟩),List.length_modify]
theorem isHB_iff (n : Bs) : isHB n = true ↔ n = zsh ∨ n = body:=by
 unfold isHB
 simp
end Tre
namespace Tk
open Asc
theorem zoe (R : List UInt8) : ∀ (as as0 : List (List UInt8 × List UInt8)) (self sl : Bool),zgp (as0 ++ as) → (sl = false) → tg (zaP as self ++ R) as0 sl = some (as0 ++ as,self,R)
 | [],as0,self,sl,hg,hs=>by
  subst hs
  rw [List.append_nil]
  cases self
  ·rfl
  ·show tg (47 :: (62 :: R)) as0 false = _
   rw [zkC 47 (62 :: R) as0 false (by decide) (.inl rfl)]
   rfl
 | a :: as,as0,self,sl,hg,hs=>by
  have ha : zmR a.1:=hg.2.2 a (by simp)
  have hno : has as0 a.1 = false:=has_no as0 a.1 fun b hb=>(List.pairwise_append.1 hg.2.1).2.2 b hb a (List.mem_cons_self ..)
  have hlen : as0.length < 64:=by
   have:=hg.1
   rw [List.length_append,List.length_cons] at this
   omega
  have e : zaP (a :: as) self ++ R = 32 :: (a.1 ++ 61 :: 34 :: (Rf.enc true a.2 ++ 34 :: (zaP as self ++ R))):=by
   unfold zaP zd2
   simp [List.flatMap_cons,List.append_assoc]
  rw [e,zkC 32 _ as0 sl (by decide) (.inr (by decide))]
  obtain ⟨c,m,hcm,hc,hm⟩:=ha.1
  have hb:=zmS a.1 a.2 (zaP as self ++ R) ha
  have hadd : add as0 (a.1,a.2) = as0 ++ [a]:=by unfold add;rw [if_pos ⟨hno,hlen⟩]
  rw [hcm,List.cons_append,zjy c _ as0 _ hc,← List.cons_append,← hcm,hb,hadd]
  have:=zoe R as (as0 ++ [a]) self false (by rw [List.append_assoc];exact hg) rfl
  rw [this,List.append_assoc]
  rfl
theorem zkU (R n : List UInt8) (as : List (List UInt8 × List UInt8)) (self : Bool) (hn : zgq n) (ha : zgp as) : tag (n ++ (zaP as self ++ R)) = some (⟨1,n,as,self,[]⟩,R):=by
 obtain ⟨c,r,e,hc⟩:=zmT as self
 have h:=zb3 tn n c (r ++ R) hn.2.1 hc
 rw [← List.cons_append,← e] at h
 unfold tag
 rw [h.1,h.2,zoe R as [] self false ha rfl,hn.2.2]
 rfl
theorem zlP (k : Tok) (R : List UInt8) (h1 : k.kind = 1) (hx : k.text = []) (hn : zgq k.name) (ha : zgp k.attrs) : next (zaX k ++ R) = (k,(zaX k).length):=by
 obtain ⟨c,m,e,hc⟩:=hn.1
 have ht : zaX k ++ R = 60 :: (k.name ++ (zaP k.attrs k.self ++ R)):=by unfold zaX;rw [if_pos h1,List.cons_append,List.append_assoc]
 have htl : (zaX k).length = (60 :: (k.name ++ zaP k.attrs k.self)).length:=by unfold zaX;rw [if_pos h1]
 have hb:=zkU R k.name k.attrs k.self hn ha
 have hi : zca (60 :: (k.name ++ (zaP k.attrs k.self ++ R))) = true:=by rw [e];exact zrH c _ hc
 have hl : zd1 ((60 :: (k.name ++ (zaP k.attrs k.self ++ R))).drop 1) = true:=by rw [e];exact hc
 rw [ht,htl]
 unfold next
 rw [if_neg (by simp),if_neg (by rw [hi];simp),if_pos hl,show List.drop 1 (60 :: (k.name ++ (zaP k.attrs k.self ++ R))) = k.name ++ (zaP k.attrs k.self ++ R) from rfl,hb]
 cases k
 simp only at h1 hx
 subst h1 hx
 simp
 omega
theorem zp5 (k : Tok) (R : List UInt8) (h1 : k.kind = 2) (hx : k.text = []) (hs : k.self = false) (ha : k.attrs = []) (hn : zgq k.name) : next (zaX k ++ R) = (k,(zaX k).length):=by
 obtain ⟨c,m,e,hc⟩:=hn.1
 have ht : zaX k ++ R = 60 :: 47 :: (k.name ++ (zaP [] false ++ R)):=by unfold zaX;rw [h1];simp [zaP]
 have htl : (zaX k).length = k.name.length + 3:=by unfold zaX;rw [h1];simp
 have hb:=zkU R k.name [] false hn ⟨by simp,List.Pairwise.nil,by simp⟩
 have hi : zca (60 :: 47 :: (k.name ++ (zaP [] false ++ R))) = true:=by
  show (zlp 47 || (47 : UInt8) == 47 || (47 : UInt8) == 33 || (47 : UInt8) == 63) = true
  decide
 rw [ht,htl]
 unfold next
 rw [if_neg (by simp),if_neg (by rw [hi];simp),if_neg (by show ¬ (zlp 47 = true);decide),if_pos ⟨rfl,by show zd1 (k.name ++ (zaP [] false ++ R)) = true;rw [e];exact hc⟩,show List.drop 2 (60 :: 47 :: (k.name ++ (zaP [] false ++ R))) = k.name ++ (zaP [] false ++ R) from rfl,hb]
 cases k
 simp only at h1 hx hs ha
 subst h1 hx hs ha
 simp [zaP]
 omega
theorem ziM (c : UInt8) (t : List UInt8) (hc : c ≠ 60) : zca (c :: t) = false:=by
 unfold zca
 split
 ·rename_i e;cases e;exact absurd rfl hc
 ·rfl
theorem ziN : ∀ s R : List UInt8,s.all (· != 60) = true → (R = [] ∨ zca R = true) → zhp (s ++ R) = s.length
 | [],R,_,hR=>by
  rcases hR with rfl | hR
  ·rfl
  ·cases R with
   | nil=>rfl
   | cons c t=>rw [List.nil_append,zhp,hR];rfl
 | c :: t,R,h,hR=>by
  rw [List.all_cons,Bool.and_eq_true] at h
  have hc : c ≠ 60:=by simpa using h.1
  have hi : zca (c :: (t ++ R)) = false:=ziM c _ hc
  rw [List.cons_append,zhp,hi,ziN t R h.2 hR]
  rfl
theorem zp6 (x : List UInt8) : (Rf.enc false x).all (· != 60) = true:=by
 have:=Rf.enc_clean false x
 rw [List.all_eq_true] at *
 intro x hx
 have h2:=this x hx
 have h3 : (x != 60 && x != 62) = true:=h2
 rw [Bool.and_eq_true] at h3
 exact h3.1
theorem zqM (x : List UInt8) (hx : x ≠ []) : Rf.enc false x ≠ []:=by
 intro e
 have:=Rf.back false false x
 rw [e,Rf.zju] at this
 exact hx this.symm
theorem zof (x R : List UInt8) (hx : x ≠ []) (hR : R = [] ∨ zca R = true) : next (Rf.enc false x ++ R) = (zb2 x,(Rf.enc false x).length):=by
 have hc:=zp6 x
 have hu:=ziN _ R hc hR
 have hne:=zqM x hx
 have hi : zca (Rf.enc false x ++ R) = false:=by
  obtain ⟨c,t,e⟩ : ∃ c t,Rf.enc false x = c :: t:=by
   cases h : Rf.enc false x with
   | nil=>exact absurd h hne
   | cons c t=>exact ⟨c,t,rfl⟩
  rw [e] at hc ⊢
  rw [List.all_cons,Bool.and_eq_true] at hc
  have hc : c ≠ 60:=by simpa using hc.1
  exact ziM c _ hc
 unfold next
 rw [if_neg (by simp [hne]),if_pos hi,hu,List.take_left,Rf.back]
end Tk
namespace Tre
theorem zfX (ns : List Nd) (i j : Nat) (f : Nd → Nd) (hi : i < ns.length) : zaC (ns.modify i f) j = if i = j then f (zaC ns j) else zaC ns j:=by
 unfold zaC
 rw [List.getElem?_modify]
 by_cases h : i = j
 ·subst h
  rw [if_pos rfl,List.getElem?_eq_getElem hi]
  simp
 ·rw [if_neg h]
  cases ns[j]? <;> simp [h]
theorem zjY (ns : List Nd) (n : Nd) (j : Nat) : zaC (ns ++ [n]) j = if j < ns.length then zaC ns j else if j = ns.length then n else zeroN:=by
 unfold zaC
 by_cases h : j < ns.length
 ·rw [if_pos h,List.getElem?_append_left h]
 ·rw [if_neg h,List.getElem?_append_right (by omega)]
  by_cases e : j = ns.length
  ·rw [if_pos e,e,Nat.sub_self];rfl
  ·rw [if_neg e]
   obtain ⟨k,hk⟩ : ∃ k,j - ns.length = k + 1:=⟨j - ns.length - 1,by omega⟩
   rw [hk];rfl
theorem zdb {a b : List Nd} (u : Nat) : ∀ n,(∀ i,i < n → (zaC a i).up = (zaC b i).up) → zaJ a u n = zaJ b u n
 | 0,_=>rfl
 | n + 1,h=>by rw [zaJ,zaJ,zdb u n (fun i hi=>h i (by omega)),h n (by omega)]
theorem zdm {a b : List Nd} : ∀ f i m,(∀ j,j < m → (zaC a j).up = (zaC b j).up) → (∀ j,j < m → j ≠ 0 → 0 ≤ (zaC b j).up ∧ (zaC b j).up < (j : Int)) → i < m → zjj a f i = zjj b f i
 | 0,_,_,_,_,_=>rfl
 | f + 1,i,m,h,hu,hi=>by
  rw [zjj,zjj,h i hi]
  by_cases h0 : i = 0
  ·rw [if_pos h0,if_pos h0]
  ·have:=hu i hi h0
   rw [if_neg h0,if_neg h0,zdm f _ m h hu (by omega)]
theorem zog {ns : List Nd} {u n : Nat} : (zaJ ns u (n + 1)) = if (zaC ns n).up = (u : Int) then zaJ ns u n ++ [(n : Int)] else zaJ ns u n:=by
 rw [zaJ]
 split <;> simp
structure Wl (b : St) : Prop where
 len : 1 ≤ b.nodes.length
 root : zgw (zaC b.nodes 0) = true
 shape : ∀ i,i < b.nodes.length → i ≠ 0 → zct b.nodes i = true
 kids : ∀ i,i < b.nodes.length → (zaC b.nodes i).kids = zaJ b.nodes i b.nodes.length
 op0 : b.opn[0]? = some 0
 sorted : b.opn.Pairwise (· < ·)
 opin : ∀ x ∈ b.opn,x < b.nodes.length ∧ (zaC b.nodes x).kind ≠ 3
 chain : ∀ (j a c : Nat),b.opn[j]? = some a → b.opn[j + 1]? = some c → (zaC b.nodes c).up = (a : Int) ∧ (zaC b.nodes a).kids.getLast? = some (c : Int)
 last : ∀ k : Int,(zaC b.nodes (top b)).kids.getLast? = some k → (zaC b.nodes k.toNat).kind = 3 → k.toNat + 1 = b.nodes.length
 deep : ∀ i,i < b.nodes.length → dep b.nodes i ≤ 64
theorem Wl.ups {b : St} (h : Wl b) : ∀ i,i < b.nodes.length → i ≠ 0 → 0 ≤ (zaC b.nodes i).up ∧ (zaC b.nodes i).up < (i : Int):=fun i hi h0=>by
 have hs:=h.shape i hi h0
 unfold zct zil at hs
 rw [if_neg h0] at hs
 simp only [Bool.and_eq_true,decide_eq_true_eq] at hs
 exact ⟨hs.1.1,hs.1.2.1⟩
theorem Wl.may {b : St} (h : Wl b) (hl : b.nodes.length ≤ 4096) : zh3 b.nodes = true:=by
 refine zp3 ⟨h.len,hl⟩ (fun i hi=>?_) (fun i hi=>decide_eq_true (h.kids i hi))
 by_cases h0 : i = 0
 ·subst h0
  unfold zct
  rw [if_pos rfl]
  exact h.root
 ·exact h.shape i hi h0
theorem Wl.deepN {b : St} (h : Wl b) : deepN b.nodes ≤ 64:=by
 unfold Tre.deepN
 split
 ·exact zn7 _ _ _ (fun i hi=>h.deep i hi)
 ·exact Nat.zero_le _
theorem Wl.oplen {b : St} (h : Wl b) : 1 ≤ b.opn.length:=by
 have:=h.op0
 cases hb : b.opn with
 | nil=>rw [hb] at this;cases this
 | cons a l=>simp
theorem Wl.top_at {b : St} (h : Wl b) : b.opn[b.opn.length - 1]? = some (top b):=by
 have:=h.oplen
 unfold top
 rw [List.getLastD_eq_getLast?,List.getLast?_eq_getElem?,List.getElem?_eq_getElem (by omega)]
 rfl
theorem Wl.top_in {b : St} (h : Wl b) : top b < b.nodes.length ∧ (zaC b.nodes (top b)).kind ≠ 3:=h.opin _ (List.mem_of_getElem? h.top_at)
theorem Wl.open_dep {b : St} (h : Wl b) : ∀ (j a : Nat),b.opn[j]? = some a → dep b.nodes a = j
 | 0,a,ha=>by
  rw [h.op0] at ha
  cases ha
  rfl
 | j + 1,a,ha=>by
  have hj : j + 1 < b.opn.length:=(List.getElem?_eq_some_iff.1 ha).1
  obtain ⟨p,hp⟩ : ∃ p,b.opn[j]? = some p:=⟨_,List.getElem?_eq_getElem (by omega)⟩
  have ih:=h.open_dep j p hp
  have hc:=(h.chain j p a hp ha).1
  have hin:=(h.opin a (List.mem_of_getElem? ha)).1
  have h0 : a ≠ 0:=by
   rintro rfl
   have h0:=h.root
   unfold zgw at h0
   simp only [Bool.and_eq_true,beq_iff_eq] at h0
   rw [h0.2.1] at hc
   omega
  rw [zq7 h.ups hin h0,hc]
  show dep b.nodes p + 1 = j + 1
  rw [ih]
theorem Wl.top_dep {b : St} (h : Wl b) : dep b.nodes (top b) = b.opn.length - 1:=h.open_dep _ _ h.top_at
theorem zoh : Wl start0:=by
 refine ⟨by decide,by decide,?_,?_,rfl,by decide,by decide,?_,?_,?_⟩
 ·intro i hi h0
  simp [start0] at hi
  omega
 ·intro i hi
  simp [start0] at hi
  subst hi
  decide
 ·intro j a c ha hc
  have : j + 1 < 1:=(List.getElem?_eq_some_iff.1 hc).1
  omega
 ·intro k hk
  have e : (zaC start0.nodes (top start0)).kids.getLast? = none:=by decide
  rw [e] at hk
  cases hk
 ·intro i hi
  simp [start0] at hi
  subst hi
  decide
theorem Wl.take {b : St} (h : Wl b) (m : Nat) (hm : 1 ≤ m) : Wl ⟨b.nodes,b.opn.take m⟩:=by
 refine ⟨h.len,h.root,h.shape,h.kids,?_,h.sorted.sublist (List.take_sublist ..),fun x hx=>h.opin x (List.mem_of_mem_take hx),?_,?_,h.deep⟩
 ·show (b.opn.take m)[0]? = some 0
  rw [List.getElem?_take_of_lt (by omega)]
  exact h.op0
 ·intro j a c ha hc
  have hj : j + 1 < (b.opn.take m).length:=(List.getElem?_eq_some_iff.1 hc).1
  rw [List.length_take] at hj
  rw [List.getElem?_take_of_lt (by omega)] at ha hc
  exact h.chain j a c ha hc
 ·intro k hk h3
  have hol:=h.oplen
  by_cases hml : b.opn.length ≤ m
  ·have e : top ⟨b.nodes,b.opn.take m⟩ = top b:=by
    unfold top
    simp only
    rw [List.take_of_length_le hml]
   rw [e] at hk
   exact h.last k hk h3
  ·have ht : b.opn[m - 1]? = some (top ⟨b.nodes,b.opn.take m⟩):=by
    unfold top
    simp only
    rw [List.getLastD_eq_getLast?,List.getLast?_eq_getElem?,List.length_take,Nat.min_eq_left (by omega),List.getElem?_take_of_lt (by omega),List.getElem?_eq_getElem (by omega)]
    rfl
   obtain ⟨c,hc⟩ : ∃ c,b.opn[m]? = some c:=⟨_,List.getElem?_eq_getElem (by omega)⟩
   have h1:=(h.chain (m - 1) _ c ht (by rw [show m - 1 + 1 = m from by omega];exact hc)).2
   have hk' : (zaC b.nodes (top ⟨b.nodes,b.opn.take m⟩)).kids.getLast? = some k:=hk
   rw [h1] at hk'
   cases hk'
   have:=(h.opin c (List.mem_of_getElem? hc)).2
   exact absurd h3 this
theorem Wl.shut {b : St} (h : Wl b) (zaH walls : List Bs) : Wl (zsg b zaH walls):=h.take _ (zhG b.nodes b.opn zaH walls _ h.oplen)
theorem Wl.modify {b : St} (h : Wl b) (i : Nat) (hi : i < b.nodes.length) (f : Nd → Nd) (hu : ∀ m,(f m).up = m.up ∧ (f m).kids = m.kids ∧ (f m).kind = m.kind) (hr : i ≠ 0) (hs : zef (zaC b.nodes i) = true ∧ zef (f (zaC b.nodes i)) = true ∨ zfU (zaC b.nodes i) = true ∧ zfU (f (zaC b.nodes i)) = true) : Wl ⟨b.nodes.modify i f,b.opn⟩:=by
 have hl : (b.nodes.modify i f).length = b.nodes.length:=by simp
 have hn : ∀ j,zaC (b.nodes.modify i f) j = if i = j then f (zaC b.nodes j) else zaC b.nodes j:=fun j=>zfX b.nodes i j f hi
 have hU : ∀ j,(zaC (b.nodes.modify i f) j).up = (zaC b.nodes j).up:=fun j=>by
  rw [hn j]
  split
  ·exact (hu _).1
  ·rfl
 have hK : ∀ j,(zaC (b.nodes.modify i f) j).kids = (zaC b.nodes j).kids:=fun j=>by
  rw [hn j]
  split
  ·exact (hu _).2.1
  ·rfl
 have hD : ∀ j,(zaC (b.nodes.modify i f) j).kind = (zaC b.nodes j).kind:=fun j=>by
  rw [hn j]
  split
  ·exact (hu _).2.2
  ·rfl
 refine ⟨by rw [hl];exact h.len,?_,?_,?_,h.op0,h.sorted,fun x hx=>by rw [hl,hD];exact h.opin x hx,fun j a c ha hc=>by rw [hU,hK];exact h.chain j a c ha hc,fun k hk h3=>by rw [hl];rw [hD] at h3;exact h.last k (by rw [hK] at hk;exact hk) h3,?_⟩
 ·show zgw (zaC (b.nodes.modify i f) 0) = true
  rw [hn,if_neg hr]
  exact h.root
 ·intro j hj h0
  simp only at hj
  rw [hl] at hj
  have hs0:=h.shape j hj h0
  unfold zct zil at hs0 ⊢
  rw [if_neg h0] at hs0 ⊢
  simp only
  rw [hU,hD]
  simp only [Bool.and_eq_true,Bool.or_eq_true] at hs0 ⊢
  refine ⟨hs0.1,?_⟩
  rw [hn]
  by_cases e : i = j
  ·subst e
   rw [if_pos rfl]
   exact hs.imp (·.2) (·.2)
  ·rw [if_neg e]
   exact hs0.2
 ·intro j hj
  simp only at hj ⊢
  rw [hl] at hj ⊢
  rw [hK,h.kids j hj]
  exact zdb j _ (fun i _=>(hU i).symm)
 ·intro j hj
  simp only at hj ⊢
  rw [hl] at hj
  have : dep (b.nodes.modify i f) j = dep b.nodes j:=zdm j j b.nodes.length (fun k _=>hU k) h.ups hj
  rw [this]
  exact h.deep j hj
def laid (b : St) (n : Nd) : List Nd:=b.nodes.modify (top b) (fun m=>{ m with kids:=m.kids ++ [(b.nodes.length : Int)] }) ++ [{ n with up:=(top b : Int) }]
theorem zgX {b b2 : St} {n : Nd} (h : lay b n = .ok b2) : b.nodes.length < 4096 ∧ b.opn.length ≤ 64 ∧ b2 = ⟨laid b n,b.opn⟩:=by
 unfold lay at h
 split at h
 ·cases h
 split at h
 ·cases h
 cases h
 exact ⟨by omega,by omega,rfl⟩
theorem zkV (b : St) (n : Nd) : (laid b n).length = b.nodes.length + 1:=by simp [laid]
theorem zoi {b : St} {n : Nd} (ht : top b < b.nodes.length) (j : Nat) : zaC (laid b n) j = if j < b.nodes.length then (if top b = j then { zaC b.nodes j with kids:=(zaC b.nodes j).kids ++ [(b.nodes.length : Int)] } else zaC b.nodes j) else if j = b.nodes.length then { n with up:=(top b : Int) } else zeroN:=by
 unfold laid
 rw [zjY,List.length_modify]
 split
 ·rw [zfX _ _ _ _ ht]
 ·rfl
theorem zbN {b : St} {n : Nd} (ht : top b < b.nodes.length) {j : Nat} (hj : j < b.nodes.length) : (zaC (laid b n) j).up = (zaC b.nodes j).up ∧ (zaC (laid b n) j).kind = (zaC b.nodes j).kind ∧ (zaC (laid b n) j).name = (zaC b.nodes j).name ∧ (zaC (laid b n) j).attrs = (zaC b.nodes j).attrs ∧ (zaC (laid b n) j).text = (zaC b.nodes j).text ∧ (zaC (laid b n) j).kids = if top b = j then (zaC b.nodes j).kids ++ [(b.nodes.length : Int)] else (zaC b.nodes j).kids:=by
 rw [zoi ht,if_pos hj]
 split
 ·exact ⟨rfl,rfl,rfl,rfl,rfl,rfl⟩
 ·exact ⟨rfl,rfl,rfl,rfl,rfl,rfl⟩
theorem zkW {b : St} {n : Nd} (ht : top b < b.nodes.length) : zaC (laid b n) b.nodes.length = { n with up:=(top b : Int) }:=by
 rw [zoi ht,if_neg (by omega),if_pos rfl]
def zoj (n : Nd) : Prop:=zef n = true ∨ zfU n = true
theorem zoj.up {n : Nd} (h : zoj n) (u : Int) : zoj { n with up:=u }:=h
theorem Wl.lay {b : St} {n : Nd} (h : Wl b) (hn : n.kids = []) (hp : zoj n) (ho : b.opn.length ≤ 64) : Wl ⟨laid b n,b.opn⟩:=by
 have ht:=h.top_in
 have hl:=zkV b n
 have hU : ∀ j,j < b.nodes.length → (zaC (laid b n) j).up = (zaC b.nodes j).up:=fun j hj=>(zbN ht.1 hj).1
 have hne:=zkW (n:=n) ht.1
 have hK : ∀ u,zaJ (laid b n) u (b.nodes.length + 1) = if top b = u then zaJ b.nodes u b.nodes.length ++ [(b.nodes.length : Int)] else zaJ b.nodes u b.nodes.length:=fun u=>by
  rw [zog,hne,zdb u _ hU]
  by_cases e : top b = u
  ·rw [if_pos e,if_pos (by show ((top b : Nat) : Int) = _;rw [e])]
  ·rw [if_neg e,if_neg (by show ¬ ((top b : Nat) : Int) = _;omega)]
 have hups : ∀ j,j < (laid b n).length → j ≠ 0 → 0 ≤ (zaC (laid b n) j).up ∧ (zaC (laid b n) j).up < (j : Int):=fun j hj h0=>by
  rw [hl] at hj
  by_cases e : j = b.nodes.length
  ·subst e
   rw [hne]
   show 0 ≤ ((top b : Nat) : Int) ∧ ((top b : Nat) : Int) < _
   omega
  ·rw [hU j (by omega)]
   exact h.ups j (by omega) h0
 refine ⟨by rw [hl];omega,?_,?_,?_,h.op0,h.sorted,?_,?_,?_,?_⟩
 ·show zgw (zaC (laid b n) 0) = true
  have h0:=h.root
  obtain ⟨e1,e2,e3,e4,e5,_⟩:=zbN (n:=n) ht.1 (j:=0) (by have:=h.len;omega)
  unfold zgw at h0 ⊢
  rw [e1,e2,e3,e4,e5]
  exact h0
 ·intro j hj h0
  simp only at hj ⊢
  rw [hl] at hj
  unfold zct zil
  rw [if_neg h0]
  by_cases e : j = b.nodes.length
  ·subst e
   rw [hne]
   have e0 : ((({ n with up:=(top b : Int) } : Nd).up).toNat) = top b:=by
    show ((top b : Nat) : Int).toNat = _
    omega
   rw [e0,(zbN ht.1 ht.1).2.1]
   have h1 : decide (0 ≤ ({ n with up:=(top b : Int) } : Nd).up) = true:=decide_eq_true (by show 0 ≤ ((top b : Nat) : Int);omega)
   have h2 : decide (({ n with up:=(top b : Int) } : Nd).up < (b.nodes.length : Int)) = true:=decide_eq_true (by show ((top b : Nat) : Int) < _;omega)
   have h3 : ((zaC b.nodes (top b)).kind == 3) = false:=beq_eq_false_iff_ne.2 ht.2
   rw [h1,h2,h3]
   rcases hp with hp | hp
   ·have : zef { n with up:=(top b : Int) } = true:=hp
    rw [this];rfl
   ·have : zfU { n with up:=(top b : Int) } = true:=hp
    rw [this];simp
  ·have hj2 : j < b.nodes.length:=by omega
   have hs0:=h.shape j hj2 h0
   unfold zct zil at hs0
   rw [if_neg h0] at hs0
   obtain ⟨e1,e2,e3,e4,e5,_⟩:=zbN (n:=n) ht.1 hj2
   have hu:=h.ups j hj2 h0
   have e6:=(zbN (n:=n) ht.1 (j:=(zaC b.nodes j).up.toNat) (by omega)).2.1
   unfold zef zfU at hs0 ⊢
   rw [e1,e2,e3,e4,e5,e6]
   exact hs0
 ·intro j hj
  simp only at hj ⊢
  rw [hl] at hj ⊢
  rw [hK]
  by_cases e : j = b.nodes.length
  ·subst e
   rw [hne,if_neg (by omega)]
   show n.kids = _
   rw [hn]
   symm
   apply List.eq_nil_iff_forall_not_mem.2
   intro k hk
   obtain ⟨i,h1,h2,h3⟩:=zdl b.nodes b.nodes.length k _ hk
   by_cases h0 : i = 0
   ·subst h0
    have hr:=h.root
    unfold zgw at hr
    simp only [Bool.and_eq_true,beq_iff_eq] at hr
    rw [hr.2.1] at h3
    omega
   ·have:=h.ups i h2 h0
    omega
  ·have hj2 : j < b.nodes.length:=by omega
   rw [(zbN ht.1 hj2).2.2.2.2.2,h.kids j hj2]
 ·intro x hx
  obtain ⟨h1,h2⟩:=h.opin x hx
  refine ⟨by rw [hl];omega,?_⟩
  show (zaC (laid b n) x).kind ≠ 3
  rw [(zbN ht.1 h1).2.1]
  exact h2
 ·intro j a c ha hc
  have h1:=h.chain j a c ha hc
  have ia:=(h.opin a (List.mem_of_getElem? ha)).1
  have ic:=(h.opin c (List.mem_of_getElem? hc)).1
  show (zaC (laid b n) c).up = (a : Int) ∧ (zaC (laid b n) a).kids.getLast? = some (c : Int)
  rw [(zbN ht.1 ic).1,(zbN ht.1 ia).2.2.2.2.2]
  have hne : top b ≠ a:=by
   rintro rfl
   have hj : j + 1 < b.opn.length:=(List.getElem?_eq_some_iff.1 hc).1
   have ht':=h.top_at
   have hlt : ∀ (i k x y : Nat),i < k → b.opn[i]? = some x → b.opn[k]? = some y → x < y:=by
    intro i k x y hik hx hy
    obtain ⟨hi,rfl⟩:=List.getElem?_eq_some_iff.1 hx
    obtain ⟨hk,rfl⟩:=List.getElem?_eq_some_iff.1 hy
    exact List.pairwise_iff_getElem.1 h.sorted i k hi hk hik
   have:=hlt j (b.opn.length - 1) _ _ (by omega) ha ht'
   omega
  rw [if_neg hne]
  exact h1
 ·intro k hk h3
  have hk' : (zaC (laid b n) (top b)).kids.getLast? = some k:=hk
  rw [(zbN ht.1 ht.1).2.2.2.2.2,if_pos rfl,List.getLast?_concat] at hk'
  cases hk'
  show _ = (laid b n).length
  rw [hl]
  omega
 ·intro j hj
  simp only at hj ⊢
  have hj0:=hj
  rw [hl] at hj
  by_cases e : j = b.nodes.length
  ·subst e
   rw [zq7 hups hj0 (by have:=h.len;omega),hne]
   have e0 : ((({ n with up:=(top b : Int) } : Nd).up).toNat) = top b:=by
    show ((top b : Nat) : Int).toNat = _
    omega
   rw [e0]
   have : dep (laid b n) (top b) = dep b.nodes (top b):=zdm _ _ b.nodes.length hU h.ups ht.1
   rw [this,h.top_dep]
   have:=h.oplen
   omega
  ·have : dep (laid b n) j = dep b.nodes j:=zdm _ _ b.nodes.length hU h.ups (by omega)
   rw [this]
   exact h.deep j (by omega)
theorem Wl.opened {b : St} {n : Nd} (h : Wl b) (hn : n.kids = []) (hp : zef n = true) (ho : b.opn.length ≤ 64) : Wl ⟨laid b n,b.opn ++ [b.nodes.length]⟩:=by
 have h2:=h.lay hn (.inl hp) ho
 have ht:=h.top_in
 have hne:=zkW (n:=n) ht.1
 have hk2 : n.kind = 2:=by
  unfold zef at hp
  simp only [Bool.and_eq_true,beq_iff_eq] at hp
  exact hp.1
 refine ⟨h2.len,h2.root,h2.shape,h2.kids,?_,?_,?_,?_,?_,h2.deep⟩
 ·show (b.opn ++ [b.nodes.length])[0]? = some 0
  rw [List.getElem?_append_left (by have:=h.oplen;omega)]
  exact h.op0
 ·show (b.opn ++ [b.nodes.length]).Pairwise (· < ·)
  rw [List.pairwise_append]
  refine ⟨h.sorted,by simp,fun x hx y hy=>?_⟩
  rw [List.mem_singleton] at hy
  subst hy
  exact (h.opin x hx).1
 ·intro x hx
  rcases List.mem_append.1 hx with hx | hx
  ·exact h2.opin x hx
  ·rw [List.mem_singleton] at hx
   subst hx
   refine ⟨by rw [zkV];omega,?_⟩
   show (zaC (laid b n) _).kind ≠ 3
   rw [hne]
   show n.kind ≠ 3
   rw [hk2]
   decide
 ·intro j a c ha hc
  have hc' : (b.opn ++ [b.nodes.length])[j + 1]? = some c:=hc
  have ha' : (b.opn ++ [b.nodes.length])[j]? = some a:=ha
  have hj : j + 1 < (b.opn ++ [b.nodes.length]).length:=(List.getElem?_eq_some_iff.1 hc').1
  rw [List.length_append,List.length_singleton] at hj
  rw [List.getElem?_append_left (by omega)] at ha'
  by_cases e : j + 1 = b.opn.length
  ·rw [List.getElem?_append_right (by omega),e,Nat.sub_self] at hc'
   cases hc'
   have ht':=h.top_at
   rw [show b.opn.length - 1 = j from by omega,ha'] at ht'
   cases ht'
   show (zaC (laid b n) b.nodes.length).up = _ ∧ (zaC (laid b n) (top b)).kids.getLast? = _
   rw [hne,(zbN ht.1 ht.1).2.2.2.2.2,if_pos rfl]
   exact ⟨rfl,by simp⟩
  ·rw [List.getElem?_append_left (by omega)] at hc'
   exact h2.chain j a c ha' hc'
 ·intro k hk
  have e : top (⟨laid b n,b.opn ++ [b.nodes.length]⟩ : St) = b.nodes.length:=by
   unfold top
   simp
  rw [e] at hk
  have hk' : (zaC (laid b n) b.nodes.length).kids.getLast? = some k:=hk
  rw [hne] at hk'
  have hk'' : n.kids.getLast? = some k:=hk'
  rw [hn] at hk''
  cases hk''
theorem Wl.last_kid {b : St} (h : Wl b) {k : Int} (hk : (zaC b.nodes (top b)).kids.getLast? = some k) : ∃ j : Nat,k = (j : Int) ∧ j < b.nodes.length ∧ j ≠ 0:=by
 have ht:=h.top_in
 have hm:=List.mem_of_getLast? hk
 rw [h.kids _ ht.1] at hm
 obtain ⟨i,h1,h2,h3⟩:=zdl _ _ _ _ hm
 refine ⟨i,h1,h2,?_⟩
 rintro rfl
 have hr:=h.root
 unfold zgw at hr
 simp only [Bool.and_eq_true,beq_iff_eq] at hr
 rw [hr.2.1] at h3
 omega
theorem Wl.plain {b : St} (h : Wl b) {i : Nat} (hi : i < b.nodes.length) (h0 : i ≠ 0) : zoj (zaC b.nodes i):=by
 have hs:=h.shape i hi h0
 unfold zct at hs
 rw [if_neg h0] at hs
 simp only [Bool.and_eq_true,Bool.or_eq_true] at hs
 exact hs.2
theorem zok {n : Nd} (h : zef n = true) : n.kind = 2:=by
 unfold zef at h
 simp only [Bool.and_eq_true,beq_iff_eq] at h
 exact h.1
theorem zol {n : Nd} (h : zfU n = true) : n.kind = 3:=by
 unfold zfU at h
 simp only [Bool.and_eq_true,beq_iff_eq] at h
 exact h.1
theorem zom {as : List At} {a : At} (h : Tk.has as [] = false) (ha : a.1 ≠ []) : Tk.has (Tk.add as a) [] = false:=by
 unfold Tk.add
 split
 ·unfold Tk.has at h ⊢
  rw [List.any_append,h]
  simpa using ha
 ·exact h
theorem ze1 : ∀ (bs as : List At),Tk.has as [] = false → (∀ a ∈ bs,a.1 ≠ []) → Tk.has (zgV as bs) [] = false
 | [],as,h,_=>h
 | b :: bs,as,h,hb=>ze1 bs (Tk.add as b) (zom h (hb b (List.mem_cons_self ..))) (fun a ha=>hb a (List.mem_cons_of_mem _ ha))
theorem zp7 {ns : List Nd} {n : Bs} {i : Nat} (h : zei ns n = some i) : i < ns.length ∧ (zaC ns i).kind = 2 ∧ (zaC ns i).name = n:=by
 unfold zei at h
 rw [List.findIdx?_eq_some_iff_getElem] at h
 obtain ⟨h1,h2,_⟩:=h
 simp only [Bool.and_eq_true,beq_iff_eq] at h2
 have e : zaC ns i = ns[i]:=zn3 (List.getElem?_eq_getElem h1)
 rw [e]
 exact ⟨h1,h2⟩
theorem zon {as : List At} (h : ∀ a ∈ as,a.1 ≠ []) : Tk.has as [] = false:=Tk.has_no as [] h
def zoo (k : Tk.Tok) : Prop:=(k.kind = 1 → k.name ≠ [] ∧ ∀ a ∈ k.attrs,a.1 ≠ []) ∧ (k.kind = 3 → k.text ≠ [])
theorem fine_ok {k : Tk.Tok} (h : Tk.Fine k) : zoo k:=by
 rcases h with ⟨h1,h2,h3,h4⟩ | ⟨h1,h2,h3,h4,h5⟩ | ⟨h1,h2,h3,h4,h5⟩ | ⟨h1,h2,h3,h4⟩
 ·refine ⟨fun _=>⟨?_,fun a ha=>?_⟩,fun e=>by omega⟩
  ·obtain ⟨c,m,e,_⟩:=h2.1
   rw [e];simp
  ·obtain ⟨⟨c,m,e,_⟩,_⟩:=h3.2.2 a ha
   rw [e];simp
 ·exact ⟨fun e=>by omega,fun e=>by omega⟩
 ·exact ⟨fun e=>by omega,fun _=>h5⟩
 ·exact ⟨fun e=>by omega,fun e=>by omega⟩
theorem Wl.step {b b2 : St} (h : Wl b) {k : Tk.Tok} (hk : zoo k) (hs : step b k = .ok b2) : Wl b2:=by
 unfold Tre.step at hs
 split at hs
 ·rename_i h1
  obtain ⟨hn,ha⟩:=hk.1 h1
  unfold ziI at hs
  split at hs
  ·rename_i i hf
   cases hs
   unfold zra at hf
   split at hf
   ·obtain ⟨f1,f2,f3⟩:=zp7 hf
    have hi0 : i ≠ 0:=by
     rintro rfl
     have hr:=h.root
     unfold zgw at hr
     simp only [Bool.and_eq_true,beq_iff_eq] at hr
     rw [hr.1] at f2
     cases f2
    refine h.modify i f1 (fun m=>{ m with attrs:=zgV m.attrs k.attrs }) (fun m=>⟨rfl,rfl,rfl⟩) hi0 (.inl ?_)
    have he : zef (zaC b.nodes i) = true:=by
     rcases h.plain f1 hi0 with he | he
     ·exact he
     ·rw [zol he] at f2
      cases f2
    refine ⟨he,?_⟩
    unfold zef at he ⊢
    simp only [Bool.and_eq_true,Bool.not_eq_true'] at he ⊢
    exact ⟨he.1,he.2.1,ze1 _ _ he.2.2.1 ha,he.2.2.2⟩
   ·cases hf
  ·split at hs
   ·cases hs
   ·rename_i b3 e
    have h3:=h.shut (zgU k.name).1 ((zgU k.name).2 ++ [body,zsh])
    obtain ⟨l1,l2,rfl⟩:=zgX e
    have hel : zef ⟨2,k.name,k.attrs,[],0,[]⟩ = true:=by
     unfold zef
     simp only [Bool.and_eq_true,Bool.not_eq_true',beq_iff_eq,beq_eq_false_iff_ne,ne_eq]
     exact ⟨trivial,hn,zon ha,trivial⟩
    cases hs
    split
    ·exact h3.lay rfl (.inl hel) l2
    ·exact h3.opened rfl hel l2
 split at hs
 ·cases hs
  exact h.shut _ _
 split at hs
 ·rename_i h3
  have hx:=hk.2 h3
  have htx : zoj ⟨3,[],[],k.text,0,[]⟩:=.inr (by
   unfold zfU
   simp only [Bool.and_eq_true,Bool.not_eq_true',beq_iff_eq,beq_eq_false_iff_ne,ne_eq]
   exact ⟨trivial,trivial,rfl,hx⟩)
  have hlay : ∀ b2,Tre.lay b ⟨3,[],[],k.text,0,[]⟩ = .ok b2 → Wl b2:=fun b2 e=>by
   obtain ⟨l1,l2,rfl⟩:=zgX e
   exact h.lay rfl htx l2
  unfold zn9 at hs
  split at hs
  ·rename_i i hi
   split at hs
   ·rename_i h3'
    cases hs
    obtain ⟨j,rfl,j1,j0⟩:=h.last_kid hi
    have ej : ((j : Int)).toNat = j:=by omega
    rw [ej] at h3' ⊢
    refine h.modify j j1 (fun m=>{ m with text:=m.text ++ k.text }) (fun m=>⟨rfl,rfl,rfl⟩) j0 (.inr ?_)
    have he : zfU (zaC b.nodes j) = true:=by
     rcases h.plain j1 j0 with he | he
     ·rw [zok he] at h3'
      cases h3'
     ·exact he
    refine ⟨he,?_⟩
    unfold zfU at he ⊢
    simp only [Bool.and_eq_true,Bool.not_eq_true',beq_eq_false_iff_ne,ne_eq] at he ⊢
    exact ⟨he.1,he.2.1,he.2.2.1,fun e=>hx (List.append_eq_nil_iff.1 e).2⟩
   ·exact hlay _ hs
  ·exact hlay _ hs
 ·cases hs
  exact h
theorem Wl.build : ∀ (ks : List Tk.Tok) (b b2 : St),Wl b → (∀ k ∈ ks,zoo k) → zoa ks b = .ok b2 → Wl b2
 | [],b,b2,h,_,hb=>by cases hb;exact h
 | k :: ks,b,b2,h,hk,hb=>by
  rw [Tre.zoa] at hb
  split at hb
  ·cases hb
  ·rename_i b3 e
   exact Wl.build ks b3 b2 (h.step (hk k (List.mem_cons_self ..)) e) (fun x hx=>hk x (List.mem_cons_of_mem _ hx)) hb
def texts (ns : List Nd) : Bs:=ns.flatMap (·.text)
def zjZ (k : Tk.Tok) : Bs:=if k.kind = 3 then k.text else []
theorem ziO (a b : List Nd) : texts (a ++ b) = texts a ++ texts b:=by
 unfold texts
 rw [List.flatMap_append]
theorem zdc (f : Nd → Nd) (hf : ∀ m,(f m).text = m.text) : ∀ (ns : List Nd) (i : Nat),texts (ns.modify i f) = texts ns
 | [],i=>by cases i <;> rfl
 | n :: ns,0=>by
  unfold texts
  simp only [List.modify_zero_cons,List.flatMap_cons,hf]
 | n :: ns,i + 1=>by
  have:=zdc f hf ns i
  unfold texts at this ⊢
  simp only [List.modify_succ_cons,List.flatMap_cons]
  rw [this]
theorem zgY (x : Bs) : ∀ (ns : List Nd) (i : Nat),i + 1 = ns.length → texts (ns.modify i (fun m=>{ m with text:=m.text ++ x })) = texts ns ++ x
 | [],i,h=>by simp at h
 | [n],0,h=>by
  unfold texts
  simp
 | n :: m :: ns,0,h=>by simp at h
 | [n],i + 1,h=>by simp at h
 | n :: m :: ns,i + 1,h=>by
  have:=zgY x (m :: ns) i (by simpa using h)
  unfold texts at this ⊢
  rw [List.modify_succ_cons,List.flatMap_cons,this,List.flatMap_cons (x:=n),List.append_assoc]
theorem zgZ (b : St) (n : Nd) : texts (laid b n) = texts b.nodes ++ n.text:=by
 unfold laid
 rw [ziO,zdc (fun m=>{ m with kids:=m.kids ++ [(b.nodes.length : Int)] }) (fun m=>rfl)]
 unfold texts
 simp
theorem zlQ {b b2 : St} (h : Wl b) {k : Tk.Tok} (hs : step b k = .ok b2) : texts b2.nodes = texts b.nodes ++ zjZ k:=by
 unfold Tre.step at hs
 unfold zjZ
 split at hs
 ·rename_i h1
  rw [if_neg (by omega),List.append_nil]
  unfold ziI at hs
  split at hs
  ·cases hs
   exact zdc (fun m=>{ m with attrs:=zgV m.attrs k.attrs }) (fun m=>rfl) _ _
  ·split at hs
   ·cases hs
   ·rename_i b3 e
    obtain ⟨l1,l2,rfl⟩:=zgX e
    cases hs
    have:=zgZ (Tre.zsg b (zgU k.name).1 ((zgU k.name).2 ++ [body,zsh])) ⟨2,k.name,k.attrs,[],0,[]⟩
    rw [List.append_nil] at this
    split
    ·exact this
    ·exact this
 split at hs
 ·rw [if_neg (by omega),List.append_nil]
  cases hs
  rfl
 split at hs
 ·rename_i h3
  rw [if_pos h3]
  have hlay : ∀ b2,Tre.lay b ⟨3,[],[],k.text,0,[]⟩ = .ok b2 → texts b2.nodes = texts b.nodes ++ k.text:=fun b2 e=>by
   obtain ⟨l1,l2,rfl⟩:=zgX e
   exact zgZ b _
  unfold zn9 at hs
  split at hs
  ·rename_i i hi
   split at hs
   ·rename_i h3'
    cases hs
    exact zgY k.text b.nodes i.toNat (h.last i hi h3')
   ·exact hlay _ hs
  ·exact hlay _ hs
 ·rename_i h3
  rw [if_neg h3,List.append_nil]
  cases hs
  rfl
theorem zj0 : ∀ (ks : List Tk.Tok) (b b2 : St),Wl b → (∀ k ∈ ks,zoo k) → zoa ks b = .ok b2 → texts b2.nodes = texts b.nodes ++ ks.flatMap zjZ
 | [],b,b2,h,_,hb=>by cases hb;simp
 | k :: ks,b,b2,h,hk,hb=>by
  rw [Tre.zoa] at hb
  split at hb
  ·cases hb
  ·rename_i b3 e
   rw [zj0 ks b3 b2 (h.step (hk k (List.mem_cons_self ..)) e) (fun x hx=>hk x (List.mem_cons_of_mem _ hx)) hb,zlQ h e,List.flatMap_cons,List.append_assoc]
theorem parse_inv {ks : List Tk.Tok} {ns : List Nd} (hk : ∀ k ∈ ks,zoo k) (h : zob ks = .ok ns) : ∃ b,Wl b ∧ b.nodes = ns ∧ zoa ks start0 = .ok b:=by
 unfold zob at h
 split at h
 ·cases h
 ·rename_i b e
  cases h
  exact ⟨b,Wl.build ks _ _ zoh hk e,rfl,e⟩
open Tk
def aliveS : Bs:=[60,117,108,62,60,108,105,62,97,60,108,105,62,98,60,47,117,108,62]
def aliveW : Bs:=[60,117,108,62,60,108,105,62,97,60,47,108,105,62,60,108,105,62,98,60,47,108,105,62,60,47,117,108,62]
def ulN : Bs:=[117,108]
def liN : Bs:=[108,105]
def tS (n : Bs) : Tok:=⟨1,n,[],false,[]⟩
def tE (n : Bs) : Tok:=⟨2,n,[],false,[]⟩
theorem zp8 : zgp []:=⟨by simp,List.Pairwise.nil,by simp⟩
theorem zop : zgq ulN:=⟨⟨117,[108],rfl,by decide⟩,by decide +kernel,by decide +kernel⟩
theorem zoq : zgq liN:=⟨⟨108,[105],rfl,by decide⟩,by decide +kernel,by decide +kernel⟩
theorem zeI (n R : Bs) (hn : zgq n) (hr : zrI n = false) : zbK (60 :: (n ++ 62 :: R)) = ([tS n],R):=by
 have h:=zlP (tS n) R rfl rfl hn zp8
 have e : zaX (tS n) ++ R = 60 :: (n ++ 62 :: R):=by simp [zaX,tS,zaP]
 rw [e] at h
 unfold zbK
 have hr' : ¬ ((tS n).kind = 1 ∧ zrI (tS n).name = true):=fun x=>by
  have:=x.2
  rw [show (tS n).name = n from rfl,hr] at this
  cases this
 rw [h,if_neg hr',if_neg (by show ¬ (1 = 0);decide),← e,List.drop_left]
theorem zp9 (n R : Bs) (hn : zgq n) : zbK (60 :: 47 :: (n ++ 62 :: R)) = ([tE n],R):=by
 have h:=zp5 (tE n) R rfl rfl rfl rfl hn
 have e : zaX (tE n) ++ R = 60 :: 47 :: (n ++ 62 :: R):=by simp [zaX,tE]
 rw [e] at h
 unfold zbK
 rw [h,if_neg (by show ¬ (2 = 1 ∧ _);simp),if_neg (by show ¬ (2 = 0);decide),← e,List.drop_left]
theorem ziP (c : UInt8) (h1 : c ≠ 38) (h : Rf.one false [c] = ([c],1)) : Rf.enc false [c] = [c]:=by
 rw [Rf.zmH _ _ (by simp),h]
 simp only [List.drop_succ_cons,List.drop_zero]
 rw [Rf.zjw]
 rfl
theorem enc_a : Rf.enc false [97] = [97]:=ziP 97 (by decide) (by decide +kernel)
theorem enc_b : Rf.enc false [98] = [98]:=ziP 98 (by decide) (by decide +kernel)
theorem zfj (c : UInt8) (R : Bs) (h : Rf.enc false [c] = [c]) (hR : zca R = true) : zbK (c :: R) = ([zb2 [c]],R):=by
 have h:=zof [c] R (by simp) (.inr hR)
 rename_i he
 rw [he,List.singleton_append] at h
 unfold zbK
 rw [h,if_neg (by show ¬ (3 = 1 ∧ _);simp),if_neg (by show ¬ (3 = 0);decide)]
 rfl
theorem zn1 : all aliveS = [tS ulN,tS liN,zb2 [97],tS liN,zb2 [98],tE ulN]:=by
 have s1 : zbK aliveS = ([tS ulN],[60,108,105,62,97,60,108,105,62,98,60,47,117,108,62]):=zeI ulN _ zop (by decide)
 have s2 : zbK [60,108,105,62,97,60,108,105,62,98,60,47,117,108,62] = ([tS liN],[97,60,108,105,62,98,60,47,117,108,62]):=zeI liN _ zoq (by decide)
 have s3 : zbK [97,60,108,105,62,98,60,47,117,108,62] = ([zb2 [97]],[60,108,105,62,98,60,47,117,108,62]):=zfj 97 _ enc_a (by decide)
 have s4 : zbK [60,108,105,62,98,60,47,117,108,62] = ([tS liN],[98,60,47,117,108,62]):=zeI liN _ zoq (by decide)
 have s5 : zbK [98,60,47,117,108,62] = ([zb2 [98]],[60,47,117,108,62]):=zfj 98 _ enc_b (by decide)
 have s6 : zbK [60,47,117,108,62] = ([tE ulN],[]):=zp9 ulN [] zop
 rw [zdz aliveS (by decide),s1]
 show _ ++ all [60,108,105,62,97,60,108,105,62,98,60,47,117,108,62] = _
 rw [zdz _ (by simp),s2]
 show _ ++ (_ ++ all [97,60,108,105,62,98,60,47,117,108,62]) = _
 rw [zdz [97,60,108,105,62,98,60,47,117,108,62] (by simp),s3]
 show _ ++ (_ ++ (_ ++ all [60,108,105,62,98,60,47,117,108,62])) = _
 rw [zdz [60,108,105,62,98,60,47,117,108,62] (by simp),s4]
 show _ ++ (_ ++ (_ ++ (_ ++ all [98,60,47,117,108,62]))) = _
 rw [zdz [98,60,47,117,108,62] (by simp),s5]
 show _ ++ (_ ++ (_ ++ (_ ++ (_ ++ all [60,47,117,108,62])))) = _
 rw [zdz [60,47,117,108,62] (by simp),s6]
 rfl
theorem zjV : zgn aliveS = aliveS:=by
 unfold zgn
 have h:=Rf.zmK aliveS [] (by decide)
 rw [List.append_nil,Utf.isText_nil] at h
 rw [Utf.rep_self aliveS h]
 decide +kernel
def aliveN : List Nd:=[⟨1,[],[],[],-1,[1]⟩,⟨2,ulN,[],[],0,[2,4]⟩,⟨2,liN,[],[],1,[3]⟩,⟨3,[],[],[97],2,[]⟩,⟨2,liN,[],[],1,[5]⟩,⟨3,[],[],[98],4,[]⟩]
theorem alive_tree : zob [tS ulN,tS liN,zb2 [97],tS liN,zb2 [98],tE ulN] = .ok aliveN:=by rfl
theorem zcE : zh3 aliveN = true:=by decide +kernel
theorem alive_deep : deepN aliveN = 3:=by decide +kernel
theorem zeG : zgT aliveN 0 = aliveW:=by
 have e3 : zcr aliveN 3 = [97]:=by rw [ziH zcE (by decide) (by decide)];rw [if_neg (by decide)];exact enc_a
 have e5 : zcr aliveN 5 = [98]:=by rw [ziH zcE (by decide) (by decide)];rw [if_neg (by decide)];exact enc_b
 have t1 : ∀ n : Bs,zaX (tS n) = 60 :: (n ++ [62]):=fun n=>by simp [zaX,tS,zaP]
 have t2 : ∀ n : Bs,zaX (tE n) = 60 :: 47 :: (n ++ [62]):=fun n=>by simp [zaX,tE]
 have e2 : zcr aliveN 2 = [60,108,105,62,97,60,47,108,105,62]:=by
  rw [zfW zcE (by decide) (by decide)]
  show zaX (tS liN) ++ (([3] : List Int).flatMap (fun k=>zcr aliveN k.toNat) ++ (if zgS liN = true then [] else zaX (tE liN))) = _
  rw [if_neg (by decide),t1,t2,List.flatMap_cons,List.flatMap_nil]
  show _ ++ ((zcr aliveN 3 ++ []) ++ _) = _
  rw [e3]
  rfl
 have e4 : zcr aliveN 4 = [60,108,105,62,98,60,47,108,105,62]:=by
  rw [zfW zcE (by decide) (by decide)]
  show zaX (tS liN) ++ (([5] : List Int).flatMap (fun k=>zcr aliveN k.toNat) ++ (if zgS liN = true then [] else zaX (tE liN))) = _
  rw [if_neg (by decide),t1,t2,List.flatMap_cons,List.flatMap_nil]
  show _ ++ ((zcr aliveN 5 ++ []) ++ _) = _
  rw [e5]
  rfl
 have e1 : zcr aliveN 1 = aliveW:=by
  rw [zfW zcE (by decide) (by decide)]
  show zaX (tS ulN) ++ (([2,4] : List Int).flatMap (fun k=>zcr aliveN k.toNat) ++ (if zgS ulN = true then [] else zaX (tE ulN))) = _
  rw [if_neg (by decide),t1,t2,List.flatMap_cons,List.flatMap_cons,List.flatMap_nil]
  show _ ++ ((zcr aliveN 2 ++ (zcr aliveN 4 ++ [])) ++ _) = _
  rw [e2,e4]
  rfl
 unfold zgT
 rw [if_neg (by decide)]
 show ([1] : List Int).flatMap (fun k=>zcr aliveN k.toNat) = _
 rw [List.flatMap_cons,List.flatMap_nil]
 show zcr aliveN 1 ++ [] = _
 rw [e1]
 rfl
theorem zsj : zq9 aliveN 0 = (aliveW,0):=by
 unfold zq9
 rw [if_pos ⟨zcE,by decide,by decide⟩]
 show (if (zgT aliveN 0).length ≤ 262144 then (zgT aliveN 0,0) else ([],5)) = _
 rw [zeG,if_pos (by decide)]
end Tre
