/- Texts laid as one. -/
import Derived.Test.YtiodaahncadodaaGreatDoorKTkCM
import Derived.Test.YtiodaahncadodaaGreatDoorKTkNH
import Derived.Test.YtiodaahncadodaaGreatDoorKRfRt
import Derived.Test.YtiodaahncadodaaGreatDoorKAscii
import Derived.Test.YtiodaahncadodaaGreatDoorKTkSV
import Derived.Test.YtiodaahncadodaaGreatDoorKTkIJ
set_option maxRecDepth 100000
set_option maxHeartbeats 2000000
set_option linter.unusedVariables false
set_option linter.unusedSimpArgs false
namespace Go.Proofs.YtiodaahncadodaaGreatDoor
open Go.RowKit
theorem zbV (c : UInt8) (w : World) :
  Calls Tryz.prog 78 #[.int .u8 c.toNat] w fun e w'=>e = .returned (.bool (Asc.zbn c)) ∧ w' = w:=by
 have h:=zlj c.toNat w
 rw [zft] at h
 exact h
theorem zg8 (l : List UInt8) (w : World) :
  Calls Tryz.prog 73 #[.string (str l)] w fun e w'=>e = .returned (.bool (Tk.zca l)) ∧ w' = w:=by
 rcases l with _ | ⟨c,_ | ⟨d,t⟩⟩
 ·have hsz : (str []).size = 0:=zad []
  go_enter Tryz.func73,Tryz.ntmps73
  go_wp2
  go_ret
  exact ⟨rfl,rfl⟩
 ·have hsz : (str [c]).size = 1:=zad [c]
  have HX : Hid (Tk.zca [c] = false):=by show _ = _;simp [Tk.zca]
  go_enter Tryz.func73,Tryz.ntmps73
  go_wp2
  go_ret
  exact ⟨zac HX.out.symm,rfl⟩
 ·have hsz : (str (c :: d :: t)).size = t.length + 2:=zad _
  have h0 : ∀ h,(str (c :: d :: t))[0]'h = c:=fun _=>rfl
  have h1 : ∀ h,(str (c :: d :: t))[1]'h = d:=fun _=>rfl
  by_cases hc : c = 60
  ·subst hc
   have HX : Hid (Tk.zca (60 :: d :: t) = (Tk.zlp d || d == 47 || d == 33 || d == 63)):=rfl
   have hL : ∀ w,Calls Tryz.prog 74 #[.int .u8 d.toNat] w fun e w'=>e = .returned (.bool (Tk.zlp d)) ∧ w' = w:=zbF d
   have q60 : (((60 : UInt8).toNat : Int) == 60) = true:=rfl
   cases hl : Tk.zlp d
   ·rw [hl] at hL HX
    by_cases h47 : d = 47
    ·have q47 : ((d.toNat : Int) == 47) = true:=by rw [h47];rfl
     have HY : Hid (Tk.zca (60 :: d :: t) = true):=by show _ = _;rw [HX.out,h47];rfl
     clear HX h47 hl
     go_enter Tryz.func73,Tryz.ntmps73
     go_wp2_with (go_at_call 74;refine (hL _).mono ?_;rintro e w1 ⟨rfl,hw⟩;rw [hw];clear hw)
     go_ret
     exact ⟨zac HY.out.symm,rfl⟩
    ·have q47 : ((d.toNat : Int) == 47) = false:=(zcb d 47 (by omega)).trans (beq_eq_false_iff_ne.2 h47)
     by_cases h33 : d = 33
     ·have q33 : ((d.toNat : Int) == 33) = true:=by rw [h33];rfl
      have HY : Hid (Tk.zca (60 :: d :: t) = true):=by show _ = _;rw [HX.out,h33];rfl
      clear HX h47 h33 hl
      go_enter Tryz.func73,Tryz.ntmps73
      go_wp2_with (go_at_call 74;refine (hL _).mono ?_;rintro e w1 ⟨rfl,hw⟩;rw [hw];clear hw)
      go_ret
      exact ⟨zac HY.out.symm,rfl⟩
     ·have q33 : ((d.toNat : Int) == 33) = false:=(zcb d 33 (by omega)).trans (beq_eq_false_iff_ne.2 h33)
      have HY : Hid (Tk.zca (60 :: d :: t) = ((d.toNat : Int) == 63)):=by
       show _ = _
       refine Eq.trans ?_ (zcb d 63 (by omega)).symm
       rw [HX.out,beq_eq_false_iff_ne.2 h47,beq_eq_false_iff_ne.2 h33]
       rfl
      clear HX h47 h33 hl
      go_enter Tryz.func73,Tryz.ntmps73
      go_wp2_with (go_at_call 74;refine (hL _).mono ?_;rintro e w1 ⟨rfl,hw⟩;rw [hw];clear hw)
      go_ret
      exact ⟨zac HY.out.symm,rfl⟩
   ·rw [hl] at hL HX
    have HY : Hid (Tk.zca (60 :: d :: t) = true):=HX.out
    clear HX hl
    go_enter Tryz.func73,Tryz.ntmps73
    go_wp2_with (go_at_call 74;refine (hL _).mono ?_;rintro e w1 ⟨rfl,hw⟩;rw [hw];clear hw)
    go_ret
    exact ⟨zac HY.out.symm,rfl⟩
  ·have q60 : ((c.toNat : Int) == 60) = false:=(zcb c 60 (by omega)).trans (beq_eq_false_iff_ne.2 hc)
   have n60 : ((c.toNat : Int) != 60) = true:=by unfold bne;rw [q60];rfl
   have HX : Hid (Tk.zca (c :: d :: t) = false):=by
    show _ = _
    unfold Tk.zca
    split
    ·rename_i e;cases e;exact absurd rfl hc
    ·rfl
   clear hc
   go_enter Tryz.func73,Tryz.ntmps73
   go_wp2
   go_ret
   exact ⟨zac HX.out.symm,rfl⟩
theorem zsv (p : UInt8 → Bool) (l : List UInt8) (k : Nat) (h : k < l.length) (hb : p l[k] = true) : ((l.drop k).takeWhile p).length = 1 + ((l.drop (k + 1)).takeWhile p).length:=by
 rw [List.drop_eq_getElem_cons h,List.takeWhile_cons,hb,if_pos rfl,List.length_cons,Nat.add_comm]
theorem zsw (p : UInt8 → Bool) (l : List UInt8) (k : Nat) (h : k < l.length) (hb : p l[k] = false) : ((l.drop k).takeWhile p).length = 0:=by
 rw [List.drop_eq_getElem_cons h,List.takeWhile_cons,hb]
 rfl
theorem zgg (l : List UInt8) (w : World) (hz : l.length ≤ 1000000000) :
  Calls Tryz.prog 137 #[.string (str l)] w fun e w'=>e = .returned (.int .i64 (l.takeWhile Asc.zbn).length) ∧ w' = w:=by
 have hsz:=zad l
 go_enter Tryz.func137,Tryz.ntmps137
 go_wp2
 go_loopw [3] (fun i wr=>∃ k : Nat,k ≤ l.length ∧ i = .int .i64 k ∧ Hid ((l.takeWhile Asc.zbn).length = k + ((l.drop k).takeWhile Asc.zbn).length) ∧ wr = w) (fun i _=>l.length - (intOf i).toNat)
 case atStart=>exact ⟨0,Nat.zero_le _,rfl,(by show _ = _;rw [List.drop_zero,Nat.zero_add]),rfl⟩
 case round =>
  obtain ⟨k,hk,rfl,HA,rfl⟩:=hrel
  by_cases hlt : k < l.length
  ·have hat : ∀ h : k < (str l).size,(str l)[k]'h = l[k]:=fun _=>rfl
   have hI:=zbV l[k]
   cases hb : Asc.zbn l[k]
   ·have HN : Hid ((l.takeWhile Asc.zbn).length = k):=by
     show _ = _
     rw [HA.out,zsw _ l k hlt hb]
     rfl
    rw [hb] at hI
    clear hb HA
    go_wp2_with (go_at_call 78;refine (hI _).mono ?_;rintro e w1 ⟨rfl,hw⟩;rw [hw];clear hw)
    go_ret
    exact ⟨by rw [HN.out];rfl,rfl⟩
   ·have HN : Hid ((l.takeWhile Asc.zbn).length = k + 1 + ((l.drop (k + 1)).takeWhile Asc.zbn).length):=by
     show _ = _
     rw [HA.out,zsv _ l k hlt hb]
     omega
    rw [hb] at hI
    clear hb HA
    go_wp2_with (go_at_call 78;refine (hI _).mono ?_;rintro e w1 ⟨rfl,hw⟩;rw [hw];clear hw)
    go_roundw
    case rel=>exact ⟨k + 1,by omega,by go_num,HN,by trivial⟩
    case measure=>simp [intOf];omega
  ·have HN : Hid ((l.takeWhile Asc.zbn).length = k):=by
    show _ = _
    rw [HA.out,List.drop_eq_nil_of_le (by omega)]
    rfl
   clear HA
   go_wp2
   go_ret
   exact ⟨by rw [HN.out];rfl,rfl⟩
theorem zsx (m l : List UInt8) (k : Nat) (h : k < l.length) (hb : m.isPrefixOf (l.drop k) = false) : Tk.fd m (l.drop k) = 1 + Tk.fd m (l.drop (k + 1)):=by
 rw [List.drop_eq_getElem_cons h] at hb ⊢
 rw [Tk.fd,hb]
 simp [Nat.add_comm]
theorem zsy (m l : List UInt8) (k : Nat) (h : k < l.length) (hb : m.isPrefixOf (l.drop k) = true) : Tk.fd m (l.drop k) = 0:=by
 rw [List.drop_eq_getElem_cons h] at hb ⊢
 rw [Tk.fd,hb]
 rfl
theorem zld (m : List UInt8) : ∀ l : List UInt8,l.length < m.length → Tk.fd m l = l.length
 | [],_=>rfl
 | c :: t,h=>by
  have hp : m.isPrefixOf (c :: t) = false:=by
   rw [Bool.eq_false_iff]
   intro e
   have:=(List.isPrefixOf_iff_prefix.1 e).length_le
   omega
  rw [Tk.fd,hp,zld m t (by rw [List.length_cons] at h;omega)]
  rfl
theorem zle (m l : List UInt8) (k : Nat) : (((l.take (k + m.length)).drop k) = m) ↔ m.isPrefixOf (l.drop k) = true:=by
 have e : (l.take (k + m.length)).drop k = (l.drop k).take m.length:=by
  rw [List.drop_take,Nat.add_sub_cancel_left]
 rw [e,List.isPrefixOf_iff_prefix]
 constructor
 ·intro h
  rw [← h]
  exact List.take_prefix _ _
 ·rintro ⟨r,hr⟩
  rw [← hr,List.take_left]
theorem zbp (l : List UInt8) (f k : Nat) : (str l).extract f k = str ((l.take k).drop f):=by
 apply zcS
 rw [zfc,zam]
theorem zbP (l m : List UInt8) (w : World) (hz : l.length ≤ 1000000000) (hm1 : 1 ≤ m.length) (hm2 : m.length ≤ 1000) :
  Calls Tryz.prog 77 #[.string (str l),.string (str m)] w fun e w'=>e = .returned (.int .i64 (Tk.fd m l)) ∧ w' = w:=by
 have hsz:=zad l
 have hsm:=zad m
 go_enter Tryz.func77,Tryz.ntmps77
 go_wp2
 go_loopw [5] (fun i wr=>∃ k : Nat,k ≤ l.length ∧ i = .int .i64 k ∧ Hid (Tk.fd m l = k + Tk.fd m (l.drop k)) ∧ wr = w) (fun i _=>l.length - (intOf i).toNat)
 case atStart=>exact ⟨0,Nat.zero_le _,rfl,(by show _ = _;rw [List.drop_zero,Nat.zero_add]),rfl⟩
 case round =>
  obtain ⟨k,hk,rfl,HA,rfl⟩:=hrel
  by_cases hlt : k + m.length ≤ l.length
  ·have hle : (k : Int) ≤ (l.length : Int) - (m.length : Int):=by omega
   have hcut:=zbp l k (k + m.length)
   have hkl : k < l.length:=by omega
   by_cases hp : m.isPrefixOf (l.drop k) = true
   ·have q:=zbQ ((zle m l k).2 hp)
    have HN : Hid (Tk.fd m l = k):=by
     show _ = _
     rw [HA.out,zsy m l k hkl hp]
     rfl
    clear HA hp
    generalize (l.take (k + m.length)).drop k = u at *
    go_wp2
    go_ret
    exact ⟨by rw [HN.out];rfl,rfl⟩
   ·have q:=zbR (fun e=>hp ((zle m l k).1 e))
    have HN : Hid (Tk.fd m l = k + 1 + Tk.fd m (l.drop (k + 1))):=by
     show _ = _
     rw [HA.out,zsx m l k hkl (eq_false_of_ne_true hp)]
     omega
    clear HA hp
    generalize (l.take (k + m.length)).drop k = u at *
    go_wp2
    go_roundw
    case rel=>exact ⟨k + 1,by omega,by go_num,HN,by trivial⟩
    case measure=>simp [intOf];omega
  ·have hle : ¬ (k : Int) ≤ (l.length : Int) - (m.length : Int):=by omega
   have HN : Hid (Tk.fd m l = l.length):=by
    show _ = _
    rw [HA.out,zld m _ (by rw [List.length_drop];omega),List.length_drop]
    omega
   clear HA
   go_wp2
   go_ret
   exact ⟨by rw [HN.out];rfl,rfl⟩
theorem zbG (l m : List UInt8) (w : World) (hz : l.length ≤ 1000000000) (hm : m.length ≤ 1000000000) :
  Calls Tryz.prog 76 #[.string (str l),.string (str m)] w fun e w'=>e = .returned (.bool (Tk.zkD m l)) ∧ Below w.heap.size w w':=by
 have hsz:=zad l
 have hsm:=zad m
 have HV : Hid (Tk.zkD m l = (decide (m.length ≤ l.length) && Asc.zbJ (l.take m.length) == m)):=rfl
 by_cases h : m.length ≤ l.length
 ·have hI : (m.length : Int) ≤ (l.length : Int):=by omega
  have he : (str l).extract 0 m.length = str (l.take m.length):=zbx l _
  have hL:=zeA (str (l.take m.length)) w (by rw [zad,List.length_take];omega)
  rw [zam] at hL
  by_cases hq : Asc.zbJ (l.take m.length) = m
  ·have q:=zbQ hq
   have HX : Hid (Tk.zkD m l = true):=by show _ = _;rw [HV.out,decide_eq_true h,hq];simp
   clear HV hq
   generalize Asc.zbJ (l.take m.length) = x at *
   go_enter Tryz.func76,Tryz.ntmps76
   go_wp2_with (go_at_call 107;(try rw [he]);refine hL.mono ?_;rintro e w1 ⟨rfl,hw⟩)
   go_ret
   exact ⟨zac HX.out.symm,hw⟩
  ·have q:=zbR hq
   have HX : Hid (Tk.zkD m l = false):=by show _ = _;rw [HV.out,decide_eq_true h,beq_eq_false_iff_ne.2 hq];rfl
   clear HV hq
   generalize Asc.zbJ (l.take m.length) = x at *
   go_enter Tryz.func76,Tryz.ntmps76
   go_wp2_with (go_at_call 107;(try rw [he]);refine hL.mono ?_;rintro e w1 ⟨rfl,hw⟩)
   go_ret
   exact ⟨zac HX.out.symm,hw⟩
 ·have hI : ¬ (m.length : Int) ≤ (l.length : Int):=by omega
  have HX : Hid (Tk.zkD m l = false):=by show _ = _;rw [HV.out,decide_eq_false h];rfl
  clear HV
  go_enter Tryz.func76,Tryz.ntmps76
  go_wp2
  go_ret
  exact ⟨zac HX.out.symm,Below.refl _ _⟩
theorem zqw (ats : List Pr) (v : Value) (q : List UInt8) (w : World) (hv : zar w v ats) (hl : ats.length ≤ 1000000) :
  Calls Tryz.prog 109 #[v,.string (str q)] w fun e w'=>e = .returned (.bool (Tk.has ats q)) ∧ w' = w:=by
 obtain ⟨a,c,rfl⟩:=hv.form
 have HV:=zaa hv
 clear hv
 go_enter Tryz.func109,Tryz.ntmps109
 go_wp2
 go_loopw [5] (fun i wr=>∃ j : Nat,i = .int .i64 j ∧ j ≤ ats.length ∧ Hid (Tk.has (ats.take j) q = false) ∧ wr = w) (fun i _=>ats.length - (intOf i).toNat)
 case atStart=>exact ⟨0,rfl,Nat.zero_le _,rfl,rfl⟩
 case round =>
  obtain ⟨j,rfl,hj,HE,rfl⟩:=hrel
  by_cases hjl : j < ats.length
  ·have hat : ats[j]? = some ats[j]:=List.getElem?_eq_getElem hjl
   obtain ⟨b,o,rfl,hc,hbl,h1,h2⟩:=HV.out.at hat
   cases hq : (ats[j].1 == q)
   ·have HN : Hid (Tk.has (ats.take (j + 1)) q = false):=by
     show _ = _
     rw [zd8 ats q j hjl,HE.out,hq]
     rfl
    have qq:=zbR (beq_eq_false_iff_ne.1 hq)
    clear hat hq HE
    generalize ats[j] = p at *
    go_wp2
    go_roundw
    case rel=>exact ⟨j + 1,by go_num,by omega,HN,by trivial⟩
    case measure=>simp [intOf];omega
   ·have HN : Hid (Tk.has ats q = true):=zd9 ats q j hjl hq
    have qq:=zbQ (beq_iff_eq.1 hq)
    clear hat hq HE
    generalize ats[j] = p at *
    go_wp2
    go_ret
    exact ⟨zac HN.out.symm,rfl⟩
  ·have HN : Hid (Tk.has ats q = false):=by
    have h:=HE.out
    rwa [List.take_of_length_le (by omega)] at h
   go_wp2
   go_ret
   exact ⟨zac HN.out.symm,rfl⟩
theorem zcw (w : World) (o : Obj) : (w.alloc o).heap.size = w.heap.size + 1:=by simp
def zbb (w : World) (b : Nat) (cs : Array Value) : Prop:=w.heap[b]? = some (.cells cs 48 (0,0))
theorem zoS : (Tryz.prog.info? 48).map (·.size) = some 5:=by kernel_rfl
theorem zoT : (Tryz.prog.info? 48).map (fun i=>(i.zero,i.size)) = some (some (.agg kCells0),5):=by kernel_rfl
theorem zbb.lt {w : World} {b : Nat} {cs : Array Value} (h : zbb w b cs) : b < w.heap.size:=(Array.getElem?_eq_some_iff.1 h).1
theorem zbb.step {w w' : World} {b : Nat} {cs : Array Value} (h : zbb w b cs) (hb : Below w.heap.size w w') : zbb w' b cs:=(hb.block _ h.lt).trans h
theorem zbb.kept {w w' : World} {b c : Nat} {cs : Array Value} (h : zbb w b cs) (hk : zby c w w') (hb : b ≠ c) : zbb w' b cs:=hk.heap h hb
theorem zbb.belowB {w w' : World} {b B : Nat} {cs : Array Value} (h : zbb w b cs) (hb : Below B w w') (hB : b < B) : zbb w' b cs:=(hb.block _ hB).trans h
theorem zrg {w : World} {b : Nat} {x0 x1 x2 x3 x4 : Value} (h : zbb w b #[x0,x1,x2,x3,x4]) : (loadVar 48 ⟨b,0,none⟩).run Tryz.prog w = .ok (.agg #[x0,x1,x2,x3,x4]) w :=
 run_loadVar_row _ _ _ _ _ _ _ h Tryz.underlying48 rfl zoS
theorem zqx {w : World} {b : Nat} {x0 x1 x2 x3 x4 : Value} (h : zbb w b #[x0,x1,x2,x3,x4]) : (Instr.loadAt 48 (.pointer (some ⟨b,0,none⟩))).run Tryz.prog w = .ok (.agg #[x0,x1,x2,x3,x4]) w:=by
 simp only [Instr.loadAt,Instr.sureAddr,Sem.run_bind,Sem.run_pure,Result.andThen]
 exact zrg h
theorem zcp {fn : Func} {p q : Tmp} {Q : Ending → World → Prop} {a : Act} {w : World} {b : Nat} {x0 x1 x2 x3 x4 x : Value} (hr : fn.results = #[.cell p 48,.tmp q]) (hd : a.defers = []) (hp : a.tmps.getD p undef = .pointer (some ⟨b,0,none⟩)) (hx : a.tmps.getD q undef = x) (h : zbb w b #[x0,x1,x2,x3,x4]) (hQ : Q (.returned (.tuple #[.agg #[x0,x1,x2,x3,x4],x])) w) :
  bodyPost Tryz.prog fn Q .ret a w:=by
 refine bodyPost_ret (v:=.tuple #[.agg #[x0,x1,x2,x3,x4],x]) ?_ hd hQ
 rw [zfQ hr _ _ _ _ _ hp (zrg h),hx]
theorem zoU {w : World} {b : Nat} {cs : Array Value} (hc : cs.size = 5) {k : Int} {n x : ByteArray} {s : Bool} {ad : Option Addr} {ln cp : Nat} (h : zbb w b cs) : (Instr.storeAt 48 (.pointer (some ⟨b,0,none⟩)) (.agg #[.int .i64 k,.string n,.slice ad ln cp,.bool s,.string x])).run Tryz.prog w = .ok () (w.setRow b #[.int .i64 k,.string n,.slice ad ln cp,.bool s,.string x]):=by
 simp only [Instr.storeAt,Instr.sureAddr,Sem.run_bind,Sem.run_pure,Result.andThen]
 exact run_storeVar_row _ _ _ _ _ _ h zoS (by first | exact hc | simp [hc]) (by simp [Value.oneCell'])
theorem zaA {ops : Array Oper} {rest : List Oper} {o : Oper} {a : Act} {w : World} {Q : Exit → Act → World → Prop} (p q : Operand) (ho : o.op = .store 48 p q) (hg : o.guard = none) (b : Nat) (cs : Array Value) (hc : cs.size = 5) (k : Int) (n x : ByteArray) (s : Bool) (ad : Option Addr) (ln cp : Nat) (hx : a.eval p = .pointer (some ⟨b,0,none⟩)) (hy : a.eval q = .agg #[.int .i64 k,.string n,.slice ad ln cp,.bool s,.string x]) (h : zbb w b cs)
  (hn : wpList Tryz.prog ops Q rest (a.put o.dst undef) (w.setRow b #[.int .i64 k,.string n,.slice ad ln cp,.bool s,.string x])) : wpList Tryz.prog ops Q (o :: rest) a w:=by
 refine wpList_plain hg fun K hK=>?_
 unfold Oper.wp
 have e : (execOp a.eval o).run Tryz.prog w = .ok .skip (w.setRow b #[.int .i64 k,.string n,.slice ad ln cp,.bool s,.string x]):=by
  unfold execOp
  rw [ho]
  simp only [hx,hy,Sem.run_bind,zoU hc h,Result.andThen,Sem.run_pure]
 rw [e,Oper.upon_skip]
 exact hK _ _ hn
theorem zaD {ops : Array Oper} {rest : List Oper} {o : Oper} {a : Act} {w : World} {Q : Exit → Act → World → Prop} (p : Operand) (ho : o.op = .load 48 p) (hg : o.guard = none) (b : Nat) (x0 x1 x2 x3 x4 : Value) (hx : a.eval p = .pointer (some ⟨b,0,none⟩)) (h : zbb w b #[x0,x1,x2,x3,x4])
  (hn : wpList Tryz.prog ops Q rest (a.put o.dst (.agg #[x0,x1,x2,x3,x4])) w) : wpList Tryz.prog ops Q (o :: rest) a w:=by
 refine wpList_plain hg fun K hK=>?_
 unfold Oper.wp
 have e : (execOp a.eval o).run Tryz.prog w = .ok (.value (.agg #[x0,x1,x2,x3,x4])) w:=by
  unfold execOp
  rw [ho]
  simp only [hx,Sem.run_bind,zqx h,Result.andThen,Sem.run_pure]
 rw [e,Oper.upon_value]
 exact hK _ _ hn
theorem zbg {w : World} {b : Nat} {cs ds : Array Value} (h : zbb w b cs) : zbb (w.setRow b ds) b ds:=by
 unfold zbb at *
 simp [World.setRow,Array.getElem?_modify,h]
theorem zl6 (k1 k2 : Int) (n1 n2 : List UInt8) (p1 p2 : List Pr) (s1 s2 : Bool) (x1 x2 : List UInt8) (v1 v2 : Value) (w : World) (hv : zar w v1 p1) (hu : zar w v2 p2) (hl : p1.length ≤ 1000000) (hm : p2.length ≤ 1000000) :
  Calls Tryz.prog 30 #[zsd k1 n1 v1 s1 x1,zsd k2 n2 v2 s2 x2] w fun e w'=>e = .returned (.bool (zjS k1 k2 n1 n2 p1 p2 s1 s2 x1 x2)) ∧ Below w.heap.size w w':=by
 obtain ⟨a1,c1,rfl⟩:=hv.form
 obtain ⟨a2,c2,rfl⟩:=hu.form
 have HV : Hid (zjS k1 k2 n1 n2 p1 p2 s1 s2 x1 x2 = ((k1 == k2) && ((n1 == n2) && ((decide (p1 = p2)) && ((s1 == s2) && (x1 == x2)))))):=rfl
 have hb0 : Below w.heap.size w ((w.alloc (.cells (zak k1 n1 (.slice a1 p1.length c1) s1 x1) 48)).alloc (.cells (zak k2 n2 (.slice a2 p2.length c2) s2 x2) 48)):=((Below.refl _ w).alloc (Nat.le_refl _) _).alloc (by simp) _
 have HB0:=zaa hb0
 have hv0:=zaa (hv.below hb0)
 have hu0:=zaa (hu.below hb0)
 have ha1 : zbb ((w.alloc (.cells (zak k1 n1 (.slice a1 p1.length c1) s1 x1) 48)).alloc (.cells (zak k2 n2 (.slice a2 p2.length c2) s2 x2) 48)) w.heap.size (zak k1 n1 (.slice a1 p1.length c1) s1 x1) :=
  zbb.step (zaf w _) ((Below.refl _ _).alloc (Nat.le_refl _) _)
 have ha2 : zbb ((w.alloc (.cells (zak k1 n1 (.slice a1 p1.length c1) s1 x1) 48)).alloc (.cells (zak k2 n2 (.slice a2 p2.length c2) s2 x2) 48)) (w.heap.size + 1) (zak k2 n2 (.slice a2 p2.length c2) s2 x2):=by
  have:=zaf (w.alloc (.cells (zak k1 n1 (.slice a1 p1.length c1) s1 x1) 48)) (.cells (zak k2 n2 (.slice a2 p2.length c2) s2 x2) 48)
  rw [zcw] at this
  exact this
 clear hv hu hb0
 have qn:=zck n1 n2
 have qx:=zck x1 x2
 cases hk : (k1 == k2)
 ·rw [hk] at HV
  have nk:=zed hk
  clear hk
  go_enter Tryz.func30,Tryz.ntmps30
  go_wp2
  go_ret
  exact ⟨zac HV.out.symm,HB0.out⟩
 rw [hk] at HV
 have nk:=zdk hk
 cases hn : (n1 == n2)
 ·rw [hn] at HV qn
  clear hn
  go_enter Tryz.func30,Tryz.ntmps30
  go_wp2
  go_ret
  exact ⟨zac HV.out.symm,HB0.out⟩
 rw [hn] at HV qn
 clear hn
 cases hs : (s1 == s2)
 ·rw [hs] at HV
  have HV2 : Hid (zjS k1 k2 n1 n2 p1 p2 s1 s2 x1 x2 = false):=by show _ = _;rw [HV.out];simp
  have ns : (s1 != s2) = true:=by unfold bne;rw [hs];rfl
  clear HV
  go_enter Tryz.func30,Tryz.ntmps30
  go_wp2
  go_ret
  exact ⟨zac HV2.out.symm,HB0.out⟩
 rw [hs] at HV
 have hse : s1 = s2:=by simpa using hs
 subst hse
 clear hs
 cases hx : (x1 == x2)
 ·rw [hx] at HV qx
  have HV2 : Hid (zjS k1 k2 n1 n2 p1 p2 s1 s1 x1 x2 = false):=by show _ = _;rw [HV.out];simp
  clear HV hx
  go_enter Tryz.func30,Tryz.ntmps30
  go_wp2
  go_ret
  exact ⟨zac HV2.out.symm,HB0.out⟩
 rw [hx] at HV qx
 clear hx
 have HV2 : Hid (zjS k1 k2 n1 n2 p1 p2 s1 s1 x1 x2 = decide (p1 = p2)):=by show _ = _;rw [HV.out];simp
 clear HV
 by_cases hlen : p1.length = p2.length
 ·have hb : ((p1.length : Int) != (p2.length : Int)) = false:=by simp [hlen]
  have HL:=zaa hlen
  clear hlen
  go_enter Tryz.func30,Tryz.ntmps30
  go_wp2
  generalize ((w.alloc (.cells (zak k1 n1 (.slice a1 p1.length c1) s1 x1) 48)).alloc (.cells (zak k2 n2 (.slice a2 p2.length c2) s1 x2) 48)) = W at *
  have HA1:=zaa ha1
  have HA2:=zaa ha2
  clear ha1 ha2
  go_loopw [5] (fun i wr=>∃ k m : Nat,k ≤ p1.length ∧ i = .int .i64 k ∧ Hid (p1.take k = p2.take k) ∧ wr = W.drewN m) (fun i _=>p1.length - (intOf i).toNat)
  case atStart=>exact ⟨0,0,Nat.zero_le _,rfl,rfl,rfl⟩
  case round =>
   obtain ⟨k,m,hkk,rfl,HE,rfl⟩:=hrel
   have cc1 : W.cell? ⟨w.heap.size,2,none⟩ = some (.slice a1 p1.length c1):=Lib.cell_of_heap HA1.out 2
   have cc2 : W.cell? ⟨w.heap.size + 1,2,none⟩ = some (.slice a2 p2.length c2):=Lib.cell_of_heap HA2.out 2
   by_cases hlt : k < p1.length
   ·have hlt2 : k < p2.length:=by have:=HL.out;omega
    obtain ⟨p,hp⟩ : ∃ p,p1[k]? = some p:=⟨_,List.getElem?_eq_getElem hlt⟩
    obtain ⟨q,hq⟩ : ∃ q,p2[k]? = some q:=⟨_,List.getElem?_eq_getElem hlt2⟩
    obtain ⟨b1,o1,rfl,hc1,hb1,g1,g2⟩:=hv0.out.at hp
    obtain ⟨b2,o2,rfl,hc2,hb2,g3,g4⟩:=hu0.out.at hq
    have HX : Hid (p1[k]? = some p ∧ p2[k]? = some q):=⟨hp,hq⟩
    clear hp hq
    by_cases hpq : p = q
    ·subst hpq
     go_wp2
     go_quiet (fail)
     go_wp2
     go_roundw
     case rel=>exact ⟨k + 1,m + nq,by omega,by go_num,by show _ = _;rw [List.take_add_one,List.take_add_one,HE.out,HX.out.1,HX.out.2],by simp⟩
     case measure=>simp [intOf];omega
    ·have HN : Hid (decide (p1 = p2) = false):=by
      show _ = _
      rw [decide_eq_false_iff_not]
      rintro rfl
      exact hpq (Option.some.inj (HX.out.1.symm.trans HX.out.2))
     by_cases h1 : p.1 = q.1
     ·have h2 : ¬ p.2 = q.2:=fun e=>hpq (Prod.ext h1 e)
      have hs1:=zbQ h1
      have hs2:=zbR h2
      clear h1 h2 hpq
      go_wp2
      go_quiet (fail)
      go_wp2
      go_ret
      exact ⟨zac (HV2.out.trans HN.out).symm,bel HB0.out (zav ⟨m + nq,by simp⟩)⟩
     ·have hs1:=zbR h1
      clear h1 hpq
      go_wp2
      go_quiet (fail)
      go_wp2
      go_ret
      exact ⟨zac (HV2.out.trans HN.out).symm,bel HB0.out (zav ⟨m + nq,by simp⟩)⟩
   ·have HN : Hid (decide (p1 = p2) = true):=by
     show _ = _
     rw [decide_eq_true_iff]
     have h:=HE.out
     have:=HL.out
     rwa [List.take_of_length_le (by omega),List.take_of_length_le (by omega)] at h
    go_wp2
    go_ret
    exact ⟨zac (HV2.out.trans HN.out).symm,bel HB0.out (zav ⟨m,rfl⟩)⟩
 ·have hb : ((p1.length : Int) != (p2.length : Int)) = true:=by simp;omega
  have HN : Hid (decide (p1 = p2) = false):=by
   show _ = _
   rw [decide_eq_false_iff_not]
   rintro rfl
   exact hlen rfl
  clear hlen
  go_enter Tryz.func30,Tryz.ntmps30
  go_wp2
  go_ret
  exact ⟨zac (HV2.out.trans HN.out).symm,HB0.out⟩
end Go.Proofs.YtiodaahncadodaaGreatDoor
