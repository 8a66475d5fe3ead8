/- Texts laid as one. -/
import Derived.Test.YtiodaahncadodaaGreatDoorKTextR
import Derived.Test.YtiodaahncadodaaGreatDoorKRefA
import Derived.Test.YtiodaahncadodaaGreatDoorKTrCD
import Derived.Test.YtiodaahncadodaaGreatDoorKTkQR
import Derived.Test.YtiodaahncadodaaGreatDoorKTrAB
set_option maxRecDepth 100000
set_option maxHeartbeats 4000000
namespace Go.Proofs.YtiodaahncadodaaGreatDoor
open Go.RowKit
theorem zao.drewN {W : World} {B : Nat} {v : Value} {l : List UInt8} (n : Nat) (h : zao W B v l) : zao (W.drewN n) B v l:=by
 refine ⟨h.1,?_⟩
 rcases h.2 with h2 | ⟨g,cap,cur,h1,h2,h3,h4⟩
 ·exact .inl h2
 ·exact .inr ⟨g,cap,cur,h1,h2,by simpa using h3,h4⟩
theorem zkl (l : List UInt8) (w : World) (hz : l.length ≤ 1000000000) :
  Calls Tryz.prog 72 #[.string (str l)] w fun e w'=>e = .returned (.string (str (Utf.rep l))) ∧ Below w.heap.size w w':=by
 obtain ⟨i0,hi,hz0,hz1,hz2⟩:=info_parts infoByte
 go_enter Tryz.func72,Tryz.ntmps72
 go_wp2
 go_loopw [0,3] (fun x v wr=>∃ (k : Nat) (acc : List UInt8),k ≤ l.length ∧ x = .string (str (l.drop k)) ∧ zao wr w.heap.size v acc ∧ Hid (acc ++ Utf.rep (l.drop k) = Utf.rep l) ∧ acc.length ≤ 4 * k ∧ Below w.heap.size w wr) (fun x _ _=>lenOf x)
 case atStart=>exact ⟨0,[],Nat.zero_le _,rfl,zao.nil _ _,rfl,Nat.zero_le _,Below.refl _ _⟩
 case round =>
  obtain ⟨k,acc,hk,rfl,ho,HE,hal,hbw⟩:=hrel
  have hsz:=zad (l.drop k)
  have hld:=List.length_drop (i:=k) (l:=l)
  by_cases hlt : k < l.length
  ·have hne:=znk hlt
   have hp:=Utf.zdh (l.drop k)
   have hpl:=Utf.zko (l.drop k) hne
   have h0 : 0 < l.length - k:=by omega
   have hext : (str (l.drop k)).extract (Utf.zbs (l.drop k)).1 (l.length - k) = str ((l.drop k).drop (Utf.zbs (l.drop k)).1):=by
    have:=zax (l.drop k) (Utf.zbs (l.drop k)).1
    rw [hld] at this
    exact this
   rw [hld] at hpl
   have he4:=Utf.zrn ((Utf.dec (l.drop k)).1 : Int)
   have HN : Hid (acc ++ Lib.encodeRune (Utf.dec (l.drop k)).1 ++ Utf.rep (l.drop (k + (Utf.zbs (l.drop k)).1)) = Utf.rep l):=by
    show _ = _
    rw [← HE.out,Utf.zqH _ hne,List.drop_drop,List.append_assoc]
   have hszw:=hbw.size
   go_wp2_with (first
    | (go_at_call 105;refine (zo4 _ (l.drop k) (zam _) hne _ (by rw [zad,List.length_drop];omega)).mono ?_;rintro e w1 ⟨rfl,n1,rfl⟩)
    | (go_at_call 106;refine (zkg _ _).mono ?_;rintro e w2 ⟨v2,rfl,ho2,hb2⟩;obtain ⟨g2,cap2,rfl,hr2⟩:=zhQ ho2 he4.2;have ho3:=(ho.drewN n1).below hb2;have hsz2:=hb2.size)
    | (at_builtin;refine wpList_append_own _ rfl _ _ 78 rfl w.heap.size 5 i0 (.int .u8 0) 1 1 Tryz.underlying78 hi hz0 hz1 hz2 rfl (by decide) _ _ _ rfl ho3 ⟨g2,0,none⟩ _ cap2 (zaz (Lib.encodeRune (Utf.dec (l.drop k)).1)) rfl (by rw [zan,Nat.mul_one]) hr2 (zdi _) (by unfold maxLen;omega) (by omega) (by simp at hsz2;omega) ?_;intro v3 w3 ho4 hg3 _))
   have hb3 : Below w.heap.size w w3:=(bel (zfI n1 hbw) hb2).grown hg3 (by simp at hsz2;omega) (fun k hk=>(World.ownsRow.lt ho3 k hk).1)
   go_roundw
   case rel=>exact ⟨k + (Utf.zbs (l.drop k)).1,acc ++ Lib.encodeRune (Utf.dec (l.drop k)).1,by omega,rfl,zgf ho4,HN,by rw [List.length_append];omega,hb3⟩
   case measure=>simp only [lenOf,zad,List.length_drop];omega
  ·have h0 : ¬ 0 < l.length - k:=by omega
   have HN : Hid (acc = Utf.rep l):=by
    show _ = _
    have:=HE.out
    rw [List.drop_of_length_le (by omega),Utf.zmt,List.append_nil] at this
    exact this
   have hcv:=zcB ho
   go_wp2
   go_ret
   exact ⟨by rw [← HN.out];rfl,hbw⟩
set_option linter.unusedVariables false
set_option linter.unusedSimpArgs false
theorem zqD (l : List UInt8) (w : World) :
  Calls Tryz.prog 48 #[.string (str l)] w fun e w'=>e = .returned (.tuple #[.bool (Tk.zrI l),.bool (Tk.isDec l)]) ∧ w' = w:=by
 have HV : Hid (Tk.zrI l = (l == [115,99,114,105,112,116] || l == [115,116,121,108,101] || l == [116,101,120,116,97,114,101,97] || l == [116,105,116,108,101]) ∧ Tk.isDec l = (l == [116,101,120,116,97,114,101,97] || l == [116,105,116,108,101])):=⟨rfl,rfl⟩
 have q0 : ((str l).toList == [115,99,114,105,112,116]) = (l == [115,99,114,105,112,116]):=by rw [zaE]
 have q1 : ((str l).toList == [115,116,121,108,101]) = (l == [115,116,121,108,101]):=by rw [zaE]
 have q2 : ((str l).toList == [116,101,120,116,97,114,101,97]) = (l == [116,101,120,116,97,114,101,97]):=by rw [zaE]
 have q3 : ((str l).toList == [116,105,116,108,101]) = (l == [116,105,116,108,101]):=by rw [zaE]
 generalize (l == [115,99,114,105,112,116]) = b0 at *
 generalize (l == [115,116,121,108,101]) = b1 at *
 generalize (l == [116,101,120,116,97,114,101,97]) = b2 at *
 generalize (l == [116,105,116,108,101]) = b3 at *
 cases b0 <;> cases b1 <;> cases b2 <;> cases b3
 all_goals
  go_enter Tryz.func48,Tryz.ntmps48
  go_wp2
  go_ret2
  exact ⟨by rw [HV.out.1,HV.out.2];rfl,rfl⟩
theorem zme (a : ByteArray) (b : List UInt8) : a ++ str b = str (a.data.toList ++ b):=by
 apply zcS
 rw [ByteArray.data_append,Array.toList_append,zam]
theorem zji (n s : List UInt8) (k : Nat) (h : k < s.length) (hb : Tk.zrJ n (s.drop k) = false) : Tk.zpr n (s.drop k) = 1 + Tk.zpr n (s.drop (k + 1)):=by
 rw [List.drop_eq_getElem_cons h] at hb ⊢
 rw [Tk.zpr,hb]
 simp [Nat.add_comm]
theorem zsF (n s : List UInt8) (k : Nat) (h : k < s.length) (hb : Tk.zrJ n (s.drop k) = true) : Tk.zpr n (s.drop k) = 0:=by
 rw [List.drop_eq_getElem_cons h] at hb ⊢
 rw [Tk.zpr,hb]
 rfl
theorem zmf (m s : List UInt8) (h : Tk.zkD m s = true) : m.length ≤ s.length:=by
 unfold Tk.zkD at h
 rw [Bool.and_eq_true] at h
 exact of_decide_eq_true h.1
theorem zo5 (s n : List UInt8) (w : World) (hz : s.length ≤ 1000000) (hn : n.length ≤ 1000000) :
  Calls Tryz.prog 49 #[.string (str s),.string (str n)] w fun e w'=>e = .returned (.int .i64 (Tk.zpr n s)) ∧ Below w.heap.size w w':=by
 have hsz:=zad s
 have hsn:=zad n
 have hcat : (⟨#[60,47]⟩ : ByteArray) ++ str n = str (60 :: 47 :: n):=by rw [zme];rfl
 have hm : ¬ 9223372036854775807 < 2 + n.length:=by omega
 go_enter Tryz.func49,Tryz.ntmps49
 go_wp2
 go_loopw [5] (fun i wr=>∃ k : Nat,i = .int .i64 k ∧ k ≤ s.length ∧ Hid (Tk.zpr n s = k + Tk.zpr n (s.drop k)) ∧ Below w.heap.size w wr) (fun i _=>s.length - (intOf i).toNat)
 case atStart=>exact ⟨0,rfl,Nat.zero_le _,(by show _ = _;rw [List.drop_zero,Nat.zero_add]),Below.refl _ _⟩
 case round =>
  obtain ⟨k,rfl,hk,HE,hB⟩:=hrel
  have HB:=zaa hB
  clear hB
  by_cases hlt : k < s.length
  ·have hdr:=zax s k
   have hBg:=zaa (fun W=>zbG (s.drop k) (60 :: 47 :: n) W (by rw [List.length_drop];omega) (by simp only [List.length_cons];omega))
   have HH : Hid (Tk.zrJ n (s.drop k) = (Tk.zkD (60 :: 47 :: n) (s.drop k) && Tk.endsIt ((s.drop k).drop (2 + n.length)))):=rfl
   rw [List.drop_drop] at HH
   cases hb : Tk.zkD (60 :: 47 :: n) (s.drop k)
   ·rw [hb] at hBg HH
    have HN : Hid (Tk.zpr n s = k + 1 + Tk.zpr n (s.drop (k + 1))):=by
     show _ = _
     have h1:=HE.out
     rw [zji n s k hlt (by rw [HH.out];rfl)] at h1
     omega
    clear HH HE hb
    generalize s.drop k = r at *
    go_wp2_with (go_at_call 76;(try rw [hdr]);(try rw [hcat]);refine (hBg.out _).mono ?_;rintro e w1 ⟨rfl,hb1⟩;have HB1:=zaa (bel HB.out hb1);clear hb1)
    go_roundw
    case rel=>exact ⟨k + 1,by go_num,by omega,HN.out,HB1.out⟩
    case measure=>simp [intOf];omega
   ·have hle:=zmf _ _ hb
    rw [List.length_drop,List.length_cons,List.length_cons] at hle
    rw [hb] at hBg HH
    obtain ⟨K,hK⟩ : ∃ K,k + (2 + n.length) = K:=⟨_,rfl⟩
    rw [hK] at HH
    have hKI : (k : Int) + 2 + (n.length : Int) = (K : Int):=by omega
    have hKl : K ≤ s.length:=by omega
    have HY:=zaa (fun h : Tk.endsIt (s.drop K) = true=>(by
     have h1:=HE.out
     rw [zsF n s k hlt (by rw [HH.out,h];rfl)] at h1
     exact h1 : Tk.zpr n s = k))
    have HNo:=zaa (fun h : Tk.endsIt (s.drop K) = false=>(by
     have h1:=HE.out
     rw [zji n s k hlt (by rw [HH.out,h];rfl)] at h1
     omega : Tk.zpr n s = k + 1 + Tk.zpr n (s.drop (k + 1))))
    clear HH HE hb hle hK
    by_cases hKe : K = s.length
    ·have hY:=zaa (HY.out (by rw [List.drop_eq_nil_of_le (by omega)];rfl))
     have qK : ((K : Int) == (s.length : Int)) = true:=by rw [hKe];simp
     clear HY HNo hKe
     generalize s.drop k = r at *
     go_wp2_with (go_at_call 76;(try rw [hdr]);(try rw [hcat]);refine (hBg.out _).mono ?_;rintro e w1 ⟨rfl,hb1⟩;have HB1:=zaa (bel HB.out hb1);clear hb1)
     go_ret
     exact ⟨by rw [hY.out];rfl,HB1.out⟩
    ·have hKs : K < s.length:=by omega
     have qK : ((K : Int) == (s.length : Int)) = false:=by rw [beq_eq_false_iff_ne];omega
     obtain ⟨c,hc⟩ : ∃ c,s[K] = c:=⟨_,rfl⟩
     have hat:=zbW s K hKs c hc
     have hIB:=zbV c
     have HI : Hid (Tk.endsIt (s.drop K) = (Asc.zbn c || c == 47 || c == 62)):=by
      show _ = _
      rw [List.drop_eq_getElem_cons hKs,hc]
      rfl
     rw [HI.out] at HY HNo
     clear HI hc hKe
     generalize s.drop k = r at *
     cases hbl : Asc.zbn c
     ·rw [hbl] at hIB HY HNo
      by_cases h47 : c = 47
      ·have q47 : ((c.toNat : Int) == 47) = true:=by rw [h47];rfl
       have hY:=zaa (HY.out (by rw [h47];rfl))
       clear HY HNo h47
       go_wp2_with (first
        | (go_at_call 76;(try rw [hdr]);(try rw [hcat]);refine (hBg.out _).mono ?_;rintro e w1 ⟨rfl,hb1⟩;have HB1:=zaa (bel HB.out hb1);clear hb1)
        | (go_at_call 78;refine (hIB _).mono ?_;rintro e w2 ⟨rfl,hw⟩;rw [hw];clear hw))
       go_ret
       exact ⟨by rw [hY.out];rfl,HB1.out⟩
      have q47 : ((c.toNat : Int) == 47) = false:=zh4 c 47 (by omega) h47
      by_cases h62 : c = 62
      ·have q62 : ((c.toNat : Int) == 62) = true:=by rw [h62];rfl
       have hY:=zaa (HY.out (by rw [h62];rfl))
       clear HY HNo h62 h47
       go_wp2_with (first
        | (go_at_call 76;(try rw [hdr]);(try rw [hcat]);refine (hBg.out _).mono ?_;rintro e w1 ⟨rfl,hb1⟩;have HB1:=zaa (bel HB.out hb1);clear hb1)
        | (go_at_call 78;refine (hIB _).mono ?_;rintro e w2 ⟨rfl,hw⟩;rw [hw];clear hw))
       go_ret
       exact ⟨by rw [hY.out];rfl,HB1.out⟩
      have q62 : ((c.toNat : Int) == 62) = false:=zh4 c 62 (by omega) h62
      have HN:=zaa (HNo.out (by simp [h47,h62]))
      clear HY HNo h62 h47
      go_wp2_with (first
       | (go_at_call 76;(try rw [hdr]);(try rw [hcat]);refine (hBg.out _).mono ?_;rintro e w1 ⟨rfl,hb1⟩;have HB1:=zaa (bel HB.out hb1);clear hb1)
       | (go_at_call 78;refine (hIB _).mono ?_;rintro e w2 ⟨rfl,hw⟩;rw [hw];clear hw))
      go_roundw
      case rel=>exact ⟨k + 1,by go_num,by omega,HN.out,HB1.out⟩
      case measure=>simp [intOf];omega
     ·rw [hbl] at hIB HY
      have hY:=zaa (HY.out rfl)
      clear HY HNo
      go_wp2_with (first
       | (go_at_call 76;(try rw [hdr]);(try rw [hcat]);refine (hBg.out _).mono ?_;rintro e w1 ⟨rfl,hb1⟩;have HB1:=zaa (bel HB.out hb1);clear hb1)
       | (go_at_call 78;refine (hIB _).mono ?_;rintro e w2 ⟨rfl,hw⟩;rw [hw];clear hw))
      go_ret
      exact ⟨by rw [hY.out];rfl,HB1.out⟩
  ·have HN : Hid (Tk.zpr n s = s.length):=by
    show _ = _
    have h1:=HE.out
    rw [List.drop_eq_nil_of_le (by omega)] at h1
    have : Tk.zpr n [] = 0:=rfl
    omega
   clear HE
   go_wp2
   go_ret
   exact ⟨by rw [HN.out];rfl,HB.out⟩
structure KS' (w : World) (B : Nat) (v : Value) (ps : List TV) : Prop where
 row : w.ownsRow B 48 5 v ps.length (zaS ps)
 each : ∀ p ∈ ps,zaN w B p.2 p.1.attrs ∧ ApK p.2 v
def KS (w : World) (B : Nat) (v : Value) (ks : List Tk.Tok) : Prop:=∃ ps,ps.map (·.1) = ks ∧ KS' w B v ps
theorem KS.nil (w : World) (B : Nat) : KS w B (.slice none 0 0) []:=⟨[],rfl,World.ownsRow_nil _ _ _ _,fun p h=>by cases h⟩
theorem KS'.keep {w w' : World} {B : Nat} {v : Value} {ps : List TV} (h : KS' w B v ps) (hk : ∀ k,B ≤ k → k < w.heap.size → w'.heap[k]? = w.heap[k]?) : KS' w' B v ps :=
 ⟨zae h.row (fun k e hl=>hk k (World.ownsRow.lt h.row k e).1 hl),fun p hp=>⟨zae (h.each p hp).1 (fun k e hl=>hk k (World.ownsRow.lt (h.each p hp).1 k e).1 hl),(h.each p hp).2⟩⟩
theorem KS.keep {w w' : World} {B : Nat} {v : Value} {ks : List Tk.Tok} (h : KS w B v ks) (hk : ∀ k,B ≤ k → k < w.heap.size → w'.heap[k]? = w.heap[k]?) : KS w' B v ks:=by
 obtain ⟨ps,h1,h2⟩:=h
 exact ⟨ps,h1,h2.keep hk⟩
theorem KS.below {w w' : World} {B : Nat} {v : Value} {ks : List Tk.Tok} (h : KS w B v ks) (hB : Below w.heap.size w w') : KS w' B v ks:=h.keep (fun k _ hk=>hB.block k hk)
theorem KS.kept {w w' : World} {B b : Nat} {v : Value} {ks : List Tk.Tok} (h : KS w B v ks) (hk : zby b w w') (hb : b < B) : KS w' B v ks:=h.keep (fun k h1 hl=>hk.block k hl (by omega))
theorem KS.mono {w : World} {B B' : Nat} {v : Value} {ks : List Tk.Tok} (h : KS w B v ks) (hB : B' ≤ B) : KS w B' v ks:=by
 obtain ⟨ps,h1,h2⟩:=h
 exact ⟨ps,h1,zhD h2.row hB,fun p hp=>⟨zbd.mono (h2.each p hp).1 hB,(h2.each p hp).2⟩⟩
theorem KS.form {w : World} {B : Nat} {v : Value} {ks : List Tk.Tok} (h : KS w B v ks) : ∃ a c,v = .slice a ks.length c:=by
 obtain ⟨ps,h1,h2⟩:=h
 have e : ps.length = ks.length:=by rw [← h1,List.length_map]
 rcases h2.row.2 with ⟨rfl,hz⟩ | ⟨g,cap,cur,rfl,_⟩
 ·exact ⟨none,0,by rw [← e,hz]⟩
 ·exact ⟨_,_,by rw [e]⟩
theorem KS.at_base {w : World} {B : Nat} {v : Value} {ks : List Tk.Tok} (h : KS w B v ks) {k : Nat} (hk : v.ownBlock = some k) : B ≤ k ∧ k < w.heap.size:=by
 obtain ⟨ps,h1,h2⟩:=h
 exact World.ownsRow.lt h2.row k hk
theorem KS.at {w : World} {B : Nat} {a : Option Addr} {n c : Nat} {ks : List Tk.Tok} (h : KS w B (.slice a n c) ks) {j : Nat} {k : Tk.Tok} (hj : ks[j]? = some k) :
  ∃ g u,a = some ⟨g,0,none⟩ ∧ B ≤ g ∧ g < w.heap.size ∧ n ≤ c ∧ w.cell? ⟨g,j * 5,none⟩ = some (.int .i64 k.kind) ∧ w.cell? ⟨g,j * 5 + 1,none⟩ = some (.string (str k.name)) ∧ w.cell? ⟨g,j * 5 + 2,none⟩ = some u ∧ w.cell? ⟨g,j * 5 + 3,none⟩ = some (.bool k.self) ∧ w.cell? ⟨g,j * 5 + 4,none⟩ = some (.string (str k.text)) ∧ zaN w B u k.attrs:=by
 obtain ⟨ps,h1,h2⟩:=h
 have hjl : j < ks.length:=(List.getElem?_eq_some_iff.1 hj).1
 have e : ps.length = ks.length:=by rw [← h1,List.length_map]
 have hp : ps[j]? = some ps[j]:=List.getElem?_eq_getElem (by omega)
 have hk : (ps[j]).1 = k:=by
  have : (ps.map (·.1))[j]? = some k:=by rw [h1];exact hj
  rw [List.getElem?_map,hp] at this
  simpa using this
 have hr:=h2.row
 rcases h2.row.2 with ⟨hs,hz⟩ | ⟨g,cap,cur,hs,hb,hg,hc,_⟩
 ·omega
 ·have hs2 : a = some ⟨g,0,none⟩ ∧ n = ps.length ∧ c = cap:=by
   simp only [Value.slice.injEq] at hs
   exact hs
  obtain ⟨rfl,rfl,rfl⟩:=hs2
  have hat:=zcl ps j _ hp
  rw [hk] at hat
  have hcell : ∀ i,i < 5 → w.cell? ⟨g,j * 5 + i,none⟩ = (zaS ps)[j * 5 + i]?:=fun i hi=>World.ownsRow.cellAt (w:=w) (base:=B) (e:=48) (size:=5) (g:=g) (cap:=c) (n:=ps.length) (xs:=zaS ps) hr (j * 5 + i) (by omega)
  have hm : ps[j] ∈ ps:=List.getElem_mem (by omega)
  have ho:=(h2.each _ hm).1
  rw [hk] at ho
  exact ⟨g,(ps[j]).2,rfl,hb,(Array.getElem?_eq_some_iff.1 hg).1,hc,(hcell 0 (by omega)).trans hat.1,(hcell 1 (by omega)).trans hat.2.1,(hcell 2 (by omega)).trans hat.2.2.1,(hcell 3 (by omega)).trans hat.2.2.2.1,(hcell 4 (by omega)).trans hat.2.2.2.2,ho⟩
theorem zqE : (Tryz.prog.info? 48).map (fun i=>(i.zero,i.size,i.bytes)) = some (some (.agg kCells0),5,72):=by kernel_rfl
theorem zgj (w : World) (ty : TypeId) (B : Nat) (v : Value) (ks : List Tk.Tok) (h : KS w B v ks) (ad : Addr) (c : Nat) (k : Tk.Tok) (u : Value) (hx : ∀ (j : Nat) (x : Value),[.int .i64 k.kind,.string (str k.name),u,.bool k.self,.string (str k.text)][j]? = some x → w.cell? (ad.add j) = some x) (ho : zaN w B u k.attrs) (hap : ApK u v) (hlen : ks.length ≤ 10000000) (hB : B ≤ w.heap.size) :
  ∃ v' w',(Builtin.append_ #[44,44] ty #[v,.slice (some ad) 1 c]).run Tryz.prog w = .ok v' w' ∧ KS w' B v' (ks ++ [k]) ∧ w.grownBy w' v.ownBlock:=by
 obtain ⟨i0,hi,hz0,hz1,hz2⟩:=info_parts zqE
 obtain ⟨ps,h0,h⟩:=h
 have e : ps.length = ks.length:=by rw [← h0,List.length_map]
 obtain ⟨v',w',h1,h2,h3,_,h5⟩:=run_append_own_at (P:=Tryz.prog) w B 44 ty 48 i0 (.agg kCells0) 5 72 Tryz.underlying44 hi hz0 hz1 hz2 rfl (by decide) v _ _ h.row ad 1 c [.int .i64 k.kind,.string (str k.name),u,.bool k.self,.string (str k.text)] rfl hx (fun x hx=>by
  have:=zbd.slice ho
  simp at hx
  rcases hx with rfl | rfl | rfl | rfl | rfl
  ·rfl
  ·rfl
  ·exact this
  ·rfl
  ·rfl) (by unfold maxLen;omega) (by omega) hB
 have hk : ∀ y q,zaN w B y q → ApK y v → zaN w' B y q ∧ ApK y v':=fun y q hy ha=>⟨zae hy (fun k e hl=>h3.block k hl (fun e2=>ha k e e2.symm)),fun k e1 e2=>by
  rcases h5 with e | e
  ·exact ha k e1 (by rw [← e];exact e2)
  ·rw [e] at e2
   cases e2
   have:=(World.ownsRow.lt hy _ e1).2
   omega⟩
 refine ⟨v',w',h1,⟨ps ++ [(k,u)],by simp [h0],by rw [List.length_append,zec];exact h2,fun p hp=>?_⟩,h3⟩
 rcases List.mem_append.1 hp with hp | hp
 ·exact hk _ _ (h.each p hp).1 (h.each p hp).2
 ·rw [List.mem_singleton] at hp
  subst hp
  exact hk _ _ ho hap
theorem zaq {w : World} {ops : Array Oper} {rest : List Oper} {o : Oper} {a : Act} {Q : Exit → Act → World → Prop} (hgd : o.guard = none) (s x : Operand)
  (ho : o.op = .call { callee:=.builtin .append,args:=#[s,x],argTypes:=#[44,44] }) (B : Nat) (v : Value) (ks : List Tk.Tok) (hs : a.eval s = v) (hown : KS w B v ks) (ad : Addr) (c : Nat) (hx : a.eval x = .slice (some ad) 1 c) (k : Tk.Tok) (u : Value) (hg : ∀ (j : Nat) (x : Value),[.int .i64 k.kind,.string (str k.name),u,.bool k.self,.string (str k.text)][j]? = some x → w.cell? (ad.add j) = some x) (hy : zaN w B u k.attrs) (hap : ApK u v) (hlen : ks.length ≤ 10000000) (hB : B ≤ w.heap.size)
  (h : ∀ v' w',KS w' B v' (ks ++ [k]) → w.grownBy w' v.ownBlock → wpList Tryz.prog ops Q rest (a.put o.dst v') w') : wpList Tryz.prog ops Q (o :: rest) a w :=
 wpList_plain hgd fun _ hK=>by
  obtain ⟨v',w',hr,h2,h3⟩:=zgj w o.type B v ks hown ad c k u hg hy hap hlen hB
  unfold Oper.wp execOp
  simp only [ho,resolve,invoke,builtin,Sem.run_bind,Sem.run_pure,Result.andThen_ok,List.map_toArray,List.map_cons,List.map_nil,hs,hx,hr]
  exact hK _ _ (h v' w' h2 h3)
theorem zgE (w : World) (x0 x1 x2 : Value) (t : TypeId) : ∀ (j : Nat) (u : Value),[x0,x1,x2][j]? = some u → (w.alloc (.cells #[x0,x1,x2] t)).cell? ((⟨w.heap.size,0,none⟩ : Addr).add j) = some u:=by
 intro j u hj
 have hh:=zaf w (.cells #[x0,x1,x2] t)
 rw [zbt,Nat.zero_add,Lib.cell_of_heap hh]
 rcases j with _ | _ | _ | j
 ·exact hj
 ·exact hj
 ·exact hj
 ·simp at hj
theorem zao.of3 {w : World} {B : Nat} {v : Value} {l : List UInt8} (ho : w.ownsRow B 5 1 v (l.length + 3) (zaz l ++ [.int .u8 239,.int .u8 191,.int .u8 189])) : zao w B v (l ++ [239,191,189]):=by
 unfold zao
 rw [List.length_append,show zaz (l ++ [239,191,189]) = zaz l ++ [.int .u8 239,.int .u8 191,.int .u8 189] from by unfold zaz;rw [List.map_append];rfl]
 exact ho
theorem zsG (S : List UInt8) (k : Nat) (h : k < S.length) : Tk.norm (S.drop k) = (if S[k] = 13 then (if (S.drop (k + 1)).head? = some 10 then [] else [10]) else if S[k] = 0 then [239,191,189] else [S[k]]) ++ Tk.norm (S.drop (k + 1)):=by
 rw [List.drop_eq_getElem_cons h,Tk.norm]
theorem zmg (l : List UInt8) (w : World) (hz : l.length ≤ 1000000) :
  Calls Tryz.prog 46 #[.string (str l)] w fun e w'=>e = .returned (.string (str (Tk.zgn l))) ∧ Below w.heap.size w w':=by
 obtain ⟨i0,hi,hz0,hz1,hz2⟩:=info_parts infoByte
 have hR:=zkl l w (by omega)
 have hrl:=Utf.rep_len l
 have HC : Hid (Tk.zgn l = Tk.norm (Utf.rep l)):=rfl
 generalize Utf.rep l = S at *
 have hsz:=zad S
 have hSl : S.length ≤ 3000000:=by omega
 clear hrl
 go_enter Tryz.func46,Tryz.ntmps46
 go_wp2_with (go_at_call 72;refine hR.mono ?_;rintro e w1 ⟨rfl,hb1⟩;have HB1:=zaa hb1;clear hb1)
 go_loopw [3,4] (fun v i wr=>∃ (k : Nat) (acc : List UInt8),i = .int .i64 k ∧ k ≤ S.length ∧ acc.length ≤ 3 * k ∧ zao wr w.heap.size v acc ∧ Hid (acc ++ Tk.norm (S.drop k) = Tk.norm S) ∧ Below w.heap.size w wr) (fun _ i _=>S.length - (intOf i).toNat)
 case atStart=>exact ⟨0,[],rfl,Nat.zero_le _,Nat.zero_le _,zao.nil _ _,rfl,HB1.out⟩
 case round =>
  obtain ⟨k,acc,rfl,hk,hal,hown,HE,hB⟩:=hrel
  have HB:=zaa hB
  have hbs:=hB.size
  clear hB hR
  by_cases hlt : k < S.length
  ·obtain ⟨c,hc⟩ : ∃ c,S[k] = c:=⟨_,rfl⟩
   have hat:=zbW S k hlt c hc
   have HN:=zaa (zsG S k hlt)
   rw [hc] at HN
   clear hc
   by_cases h13 : c = 13
   ·have q13 : ((c.toNat : Int) == 13) = true:=by rw [h13];rfl
    rw [if_pos h13] at HN
    clear h13
    by_cases hk1 : k + 1 < S.length
    ·have hk1I : (k : Int) + 1 < (S.length : Int):=by omega
     obtain ⟨d,hd⟩ : ∃ d,S[k + 1] = d:=⟨_,rfl⟩
     have hat2:=zbW S (k + 1) hk1 d hd
     have hhd : (S.drop (k + 1)).head? = some d:=by rw [List.drop_eq_getElem_cons hk1,hd];rfl
     rw [hhd] at HN
     clear hd hhd
     by_cases h10 : d = 10
     ·have q10 : ((d.toNat : Int) == 10) = true:=by rw [h10];rfl
      have HX : Hid (acc ++ Tk.norm (S.drop (k + 1)) = Tk.norm S):=by
       show _ = _
       rw [← HE.out,HN.out,if_pos (by rw [h10]),List.nil_append]
      clear h10 HN HE
      go_wp2
      go_roundw
      case rel=>exact ⟨k + 1,acc,by go_num,by omega,by omega,hown,HX.out,HB.out⟩
      case measure=>simp [intOf];omega
     ·have q10 : ((d.toNat : Int) == 10) = false:=zh4 d 10 (by omega) h10
      have HX : Hid ((acc ++ [10]) ++ Tk.norm (S.drop (k + 1)) = Tk.norm S):=by
       show _ = _
       rw [← HE.out,HN.out,if_neg (by simpa using h10),List.append_assoc]
      clear h10 HN HE
      go_wp2_with (at_builtin;refine wpList_append_own _ rfl _ _ 78 rfl w.heap.size 5 i0 (.int .u8 0) 1 1 Tryz.underlying78 hi hz0 hz1 hz2 rfl (by decide) _ _ _ rfl (World.ownsRow.alloc hown _) ⟨wr.heap.size,0,none⟩ 1 1 [.int .u8 10] rfl rfl (cell_one_new _ _ _) (fun x hx=>by simp at hx;subst hx;rfl) (by unfold maxLen;omega) (by omega) (by simp;omega) ?_;intro v' w3 hown' hgrow3 hnil3)
      go_roundw
      case rel=>exact ⟨k + 1,acc ++ [10],by go_num,by omega,by rw [List.length_append,List.length_singleton];omega,zao.of (c:=10) rfl rfl hown',HX.out,(HB.out.alloc hbs _).grown hgrow3 (by simp;omega) (fun q hq=>(World.ownsRow.lt hown q hq).1)⟩
      case measure=>simp [intOf];omega
    ·have hk1I : ¬ (k : Int) + 1 < (S.length : Int):=by omega
     have HX : Hid ((acc ++ [10]) ++ Tk.norm (S.drop (k + 1)) = Tk.norm S):=by
      show _ = _
      rw [← HE.out,HN.out,List.drop_eq_nil_of_le (by omega),if_neg (by simp),List.append_assoc]
     clear HN HE
     go_wp2_with (at_builtin;refine wpList_append_own _ rfl _ _ 78 rfl w.heap.size 5 i0 (.int .u8 0) 1 1 Tryz.underlying78 hi hz0 hz1 hz2 rfl (by decide) _ _ _ rfl (World.ownsRow.alloc hown _) ⟨wr.heap.size,0,none⟩ 1 1 [.int .u8 10] rfl rfl (cell_one_new _ _ _) (fun x hx=>by simp at hx;subst hx;rfl) (by unfold maxLen;omega) (by omega) (by simp;omega) ?_;intro v' w3 hown' hgrow3 hnil3)
     go_roundw
     case rel=>exact ⟨k + 1,acc ++ [10],by go_num,by omega,by rw [List.length_append,List.length_singleton];omega,zao.of (c:=10) rfl rfl hown',HX.out,(HB.out.alloc hbs _).grown hgrow3 (by simp;omega) (fun q hq=>(World.ownsRow.lt hown q hq).1)⟩
     case measure=>simp [intOf];omega
   have q13 : ((c.toNat : Int) == 13) = false:=zh4 c 13 (by omega) h13
   rw [if_neg h13] at HN
   clear h13
   by_cases h0 : c = 0
   ·have q0 : ((c.toNat : Int) == 0) = true:=by rw [h0];rfl
    have HX : Hid ((acc ++ [239,191,189]) ++ Tk.norm (S.drop (k + 1)) = Tk.norm S):=by
     show _ = _
     rw [← HE.out,HN.out,if_pos h0,List.append_assoc]
    clear h0 HN HE
    go_wp2_with (at_builtin;refine wpList_append_own _ rfl _ _ 78 rfl w.heap.size 5 i0 (.int .u8 0) 1 1 Tryz.underlying78 hi hz0 hz1 hz2 rfl (by decide) _ _ _ rfl (World.ownsRow.alloc hown _) ⟨wr.heap.size,0,none⟩ 3 3 [.int .u8 239,.int .u8 191,.int .u8 189] rfl rfl (zgE _ _ _ _ _) (fun x hx=>by simp at hx;rcases hx with rfl | rfl | rfl <;> rfl) (by unfold maxLen;omega) (by omega) (by simp;omega) ?_;intro v' w3 hown' hgrow3 hnil3)
    go_roundw
    case rel=>exact ⟨k + 1,acc ++ [239,191,189],by go_num,by omega,by simp only [List.length_append,List.length_cons,List.length_nil];omega,zao.of3 hown',HX.out,(HB.out.alloc hbs _).grown hgrow3 (by simp;omega) (fun q hq=>(World.ownsRow.lt hown q hq).1)⟩
    case measure=>simp [intOf];omega
   ·have q0 : ((c.toNat : Int) == 0) = false:=zh4 c 0 (by omega) h0
    have HX : Hid ((acc ++ [c]) ++ Tk.norm (S.drop (k + 1)) = Tk.norm S):=by
     show _ = _
     rw [← HE.out,HN.out,if_neg h0,List.append_assoc]
    clear h0 HN HE
    go_wp2_with (at_builtin;refine wpList_append_own _ rfl _ _ 78 rfl w.heap.size 5 i0 (.int .u8 0) 1 1 Tryz.underlying78 hi hz0 hz1 hz2 rfl (by decide) _ _ _ rfl (World.ownsRow.alloc hown _) ⟨wr.heap.size,0,none⟩ 1 1 [.int .u8 c.toNat] rfl rfl (cell_one_new _ _ _) (fun x hx=>by simp at hx;subst hx;rfl) (by unfold maxLen;omega) (by omega) (by simp;omega) ?_;intro v' w3 hown' hgrow3 hnil3)
    go_roundw
    case rel=>exact ⟨k + 1,acc ++ [c],by go_num,by omega,by rw [List.length_append,List.length_singleton];omega,zao.of (c:=c) rfl rfl hown',HX.out,(HB.out.alloc hbs _).grown hgrow3 (by simp;omega) (fun q hq=>(World.ownsRow.lt hown q hq).1)⟩
    case measure=>simp [intOf];omega
  ·have hcv:=zcB hown
   have HX : Hid (acc = Tk.zgn l):=by
    show acc = _
    rw [HC.out,← HE.out,List.drop_eq_nil_of_le (by omega)]
    exact (List.append_nil acc).symm
   clear hown HE
   go_wp2
   go_ret
   exact ⟨by rw [← HX.out];rfl,HB.out⟩
end Go.Proofs.YtiodaahncadodaaGreatDoor
