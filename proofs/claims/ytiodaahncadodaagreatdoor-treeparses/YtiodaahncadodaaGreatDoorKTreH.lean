/- The contracts of the reference's has and May. -/
import Derived.Test.YtiodaahncadodaaGreatDoorKTreGI
import Derived.Test.YtiodaahncadodaaGreatDoorKTreAE
import Derived.Test.YtiodaahncadodaaGreatDoorKTkIJ
import Derived.Deep.RegionHeldLaw
import Derived.Deep.CutBlock
set_option maxRecDepth 100000
set_option maxHeartbeats 1000000
set_option linter.unusedVariables false
set_option linter.unusedSimpArgs false
namespace Go.Proofs.YtiodaahncadodaaGreatDoor
open Go.RowKit
theorem zeQ (ats : List Pr) (v : Value) (q : List UInt8) (w : World) (hv : zar w v ats) (hl : ats.length ≤ 1000000) :
  Calls Tryz.prog 37 #[v,.string (str q)] w fun e w'=>e = .returned (.bool (Tk.has ats q)) ∧ w' = w:=by
 obtain ⟨a,c,rfl⟩:=hv.form
 have HV:=zaa hv
 clear hv
 go_enter Tryz.func37,Tryz.ntmps37
 go_wp2
 go_loopw [5] (fun i wr=>∃ j : Nat,i = .int .i64 j ∧ j ≤ ats.length ∧ Hid (Tk.has (ats.take j) q = false) ∧ wr = w) (fun i _=>ats.length - (intOf i).toNat)
 case atStart=>exact ⟨0,rfl,Nat.zero_le _,rfl,rfl⟩
 case round =>
  obtain ⟨j,rfl,hj,HE,hB⟩:=hrel
  replace hB:=hB.symm
  subst hB
  by_cases hjl : j < ats.length
  ·have hat : ats[j]? = some ats[j]:=List.getElem?_eq_getElem hjl
   obtain ⟨b,o,rfl,hc,hbl,h1,h2⟩:=HV.out.at hat
   cases hq : (ats[j].1 == q)
   ·have HN : Hid (Tk.has (ats.take (j + 1)) q = false):=by
     show _ = _
     rw [zd8 ats q j hjl,HE.out,hq]
     rfl
    have qq:=zck ats[j].1 q
    rw [hq] at qq
    clear hat h2 hq
    generalize ats[j] = p at *
    go_wp2
    go_roundw
    case rel=>exact ⟨j + 1,by go_num,by omega,HN,by first | rfl | trivial⟩
    case measure=>simp [intOf];omega
   ·have HN : Hid (Tk.has ats q = true):=zd9 ats q j hjl hq
    have qq:=zck ats[j].1 q
    rw [hq] at qq
    clear hat h2 hq
    generalize ats[j] = p at *
    go_wp2
    go_ret
    exact ⟨zac HN.out.symm,rfl⟩
  ·have HN : Hid (Tk.has ats q = false):=by
    have h:=HE.out
    rwa [List.take_of_length_le (by omega)] at h
   go_wp2
   go_ret
   exact ⟨zac HN.out.symm,rfl⟩
end Go.Proofs.YtiodaahncadodaaGreatDoor
