/- The walk of the law TreeParses, out of the contracts. -/
import Derived.Test.YtiodaahncadodaaGreatDoorKTreTV
import Derived.Test.YtiodaahncadodaaGreatDoorKTrqJE
set_option maxRecDepth 100000
set_option maxHeartbeats 4000000
set_option linter.unusedVariables false
set_option linter.unusedSimpArgs false
namespace Go.Proofs.YtiodaahncadodaaGreatDoor.treeParses
open Go.RowKit
theorem fits (l : List UInt8) : (zaY l).1.length ≤ 4096 ∧ ∀ i,i < (zaY l).1.length → (Tre.zaC (zaY l).1 i).attrs.length ≤ 64 ∧ (Tre.zaC (zaY l).1 i).kids.length ≤ 4096:=by
 by_cases h2 : (zaY l).2 = 0
 ·obtain ⟨b,_,_,_,_,hlen,_,hfit⟩:=zl5 l h2
  exact ⟨hlen,fun i hi=>⟨(hfit i hi).1,(hfit i hi).2.1⟩⟩
 ·have h3 : (zaY l).1 = []:=by
   unfold zaY at h2 ⊢
   split
   ·rename_i h0'
    rw [if_pos h0'] at h2
    cases hp : Tre.zob (zb5 l).1 with
    | error e=>rfl
    | ok ns=>rw [hp] at h2;exact absurd rfl h2
   ·rfl
  rw [h3]
  exact ⟨Nat.zero_le _,fun i hi=>by simp at hi⟩
theorem walk (a0 : ByteArray) (w : World) (h0 : a0.size ≤ 140737488351232) (hT : zh2 w) :
  Calls Tryz.prog 3 #[.string a0] w fun e w'=>e = .returned (.bool true) ∧ Below w.heap.size w w':=by
 have HT : Hid (zh2 w):=hT
 clear hT
 obtain ⟨l,rfl⟩ : ∃ l,a0 = str l:=⟨_,(zhc a0).symm⟩
 have hL:=zl4 l w
 cases hlt : zjW l
 ·rw [hlt] at hL
  have hP:=zi4 l w HT.out
  have HRP:=zaa (fun W=>zml l W)
  obtain ⟨hlen,hfit⟩:=fits l
  generalize zaY l = x at *
  obtain ⟨ns,q⟩:=x
  simp only at hlen hfit
  have HSm:=zaa (fun W v u h1 h2=>zkm v u ns ns W h1 h2 (by omega) (by omega) (fun _ i hi=>by have:=hfit i hi;omega))
  rw [Tre.sameL_self] at HSm
  clear hlt hfit hlen
  go_enter Tryz.func3,Tryz.ntmps3
  go_upto_region 4 with (first
   | (go_at_call 9;refine hL.mono ?_;rintro e w0 ⟨rfl,rfl⟩;clear hL)
   | (go_at_call 11;refine hP.mono ?_;rintro e w1 ⟨v,rfl,hR,hb1⟩;obtain ⟨a,c,rfl⟩:=hR.form))
  have hbA : Below w1.heap.size w1 (w1.alloc (.cells #[.slice a ns.length c] 26)):=(Below.refl _ _).alloc (Nat.le_refl _) _
  have cd:=zf8 (zaf w1 (.cells #[.slice a ns.length c] 26))
  have HR2:=zaa (hR.below hbA)
  have HB2:=zaa (bel hb1 hbA)
  have hds:=zaK cd
  generalize (w1.alloc (.cells #[.slice a ns.length c] 26)) = W2 at *
  generalize w1.heap.size = b at *
  clear hR hP hbA hb1
  go_upto_region 5 with (go_at_call 12;refine (HRP.out _).mono ?_;rintro e w4 ⟨v4,rfl,hR4,hb4⟩;obtain ⟨a4,c4,rfl⟩:=hR4.form)
  have hbA4 : Below w4.heap.size w4 (w4.alloc (.cells #[.slice a4 ns.length c4] 26)):=(Below.refl _ _).alloc (Nat.le_refl _) _
  have cdb:=zf8 (zaf w4 (.cells #[.slice a4 ns.length c4] 26))
  have HR5:=zaa (hR4.below hbA4)
  have HRd:=zaa ((HR2.out.below hb4).below hbA4)
  have HB5:=zaa (bel hb4 hbA4)
  have hds4:=Nat.lt_of_lt_of_le hds hb4.size
  have cd5:=(hbA4.cell (p:=⟨b,0,none⟩) hds4).trans ((hb4.cell (p:=⟨b,0,none⟩) hds).trans cd)
  generalize (w4.alloc (.cells #[.slice a4 ns.length c4] 26)) = W5 at *
  generalize w4.heap.size = b4 at *
  clear hR4 hb4 hbA4 cd hds hds4
  go_wp2_with (first
   | (go_at_call 13;refine (HSm.out _ _ _ HRd.out HR5.out).mono ?_;rintro e w7 ⟨rfl,b7⟩;have HB7:=zaa (bel HB5.out b7);clear b7)
   | (go_at_call 10;refine (zgc _ (HT.out.below (bel HB2.out HB7.out))).mono ?_;rintro e w8 ⟨rfl,b8⟩;have HB8:=zaa (bel HB7.out b8);clear b8))
  go_ret
  exact ⟨rfl,bel HB2.out HB8.out⟩
 ·rw [hlt] at hL
  go_enter Tryz.func3,Tryz.ntmps3
  go_wp2_with (first
   | (go_at_call 9;refine hL.mono ?_;rintro e w0 ⟨rfl,rfl⟩;clear hL)
   | (go_at_call 10;refine (zgc _ HT.out).mono ?_;rintro e w2 ⟨rfl,hb2⟩))
  go_ret
  exact ⟨rfl,hb2⟩
end Go.Proofs.YtiodaahncadodaaGreatDoor.treeParses
