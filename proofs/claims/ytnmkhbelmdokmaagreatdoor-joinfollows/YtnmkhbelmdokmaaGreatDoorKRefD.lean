/- Texts laid as one. -/
import Derived.Test.YtnmkhbelmdokmaaGreatDoorKRefC
import Derived.Test.YtnmkhbelmdokmaaGreatDoorKUrlB
import Derived.Deep.RegionWith
import Derived.WalkMore
import Derived.Deep.CutBlock
import Derived.Deep.CutRange
/- The contract of the reference's Place. -/
namespace Go.Proofs.YtnmkhbelmdokmaaGreatDoor
open Go.RowKit
namespace Pl
def err (q : List UInt8) : Int := if q.contains 64 = true then 3 else if Url.hostE (Url.upto [58] q) ≠ 0 then Url.hostE (Url.upto [58] q) else Url.portE ((Url.rest [58] q).drop 1)
def url (s q : List UInt8) : Url.U := if err q = 0 then { Url.zero with sch := s, host := Url.host (Url.upto [58] q), port := Url.port s ((Url.rest [58] q).drop 1) } else Url.zero
theorem yes {s q : List UInt8} (h : err q = 0) : url s q = { Url.zero with sch := s, host := Url.host (Url.upto [58] q), port := Url.port s ((Url.rest [58] q).drop 1) } := if_pos h
theorem no {s q : List UInt8} (h : ¬ err q = 0) : url s q = Url.zero := if_neg h
end Pl
theorem at_lt (q : List UInt8) : (Url.upto [64] q).length < q.length ↔ q.contains 64 = true := by
  have h1 := Url.upto_rest [64] q
  have h2 := Url.upto_not [64] q
  have h3 := Url.rest_head [64] q
  generalize Url.upto [64] q = a at h1 h2 ⊢
  generalize Url.rest [64] q = r at h1 h3
  subst h1
  cases r with
  | nil =>
    rw [List.append_nil]
    constructor
    · intro h; omega
    · intro h
      have := h2 64 (List.contains_iff_mem.1 h)
      simp at this
  | cons x r =>
    have hx : x = 64 := by
      have := h3 x rfl
      simpa using this
    subst hx
    constructor
    · intro _
      exact List.contains_iff_mem.2 (by simp)
    · intro _
      simp
set_option maxHeartbeats 20000000 in
set_option maxRecDepth 100000 in
theorem RPlace_any (s q : List UInt8) (w : World) (hS : s = Url.http ∨ s = Url.https) (hz : q.length ≤ 10000000) :
    Calls Tryz.prog 40 #[uVal { Url.zero with sch := s }, .string (str q)] w fun e w' => e = .returned (.tuple #[uVal (Pl.url s q), .int .i64 (Pl.err q)]) ∧ Below w.heap.size w w' := by
  have hzu := (zero_of_info zeroURL).1
  have hT0 : TU w.heap.size w ((w.alloc (.cells (uCells { Url.zero with sch := s }) 25)).alloc (.cells (uCells Url.zero) 25)) { Url.zero with sch := s } :=
    ⟨UAt.below (heap_alloc_last _ _) ((Below.refl _ _).alloc (Nat.le_refl _) _), alloc_two _ _ _, ((Below.refl _ w).alloc (Nat.le_refl _) _).alloc (by simp) _⟩
  have HVY : Hid (Pl.err q = 0 → Pl.url s q = { Url.zero with sch := s, host := Url.host (Url.upto [58] q), port := Url.port s ((Url.rest [58] q).drop 1) }) := Pl.yes
  have HVN : Hid (¬ Pl.err q = 0 → Pl.url s q = Url.zero) := Pl.no
  have HPE : Hid (Pl.err q = if q.contains 64 = true then 3 else if Url.hostE (Url.upto [58] q) ≠ 0 then Url.hostE (Url.upto [58] q) else Url.portE ((Url.rest [58] q).drop 1)) := rfl
  have hlt := at_lt q
  have hal := Url.upto_len [64] q
  have ua : ∀ W : World, Calls Tryz.prog 39 #[.string (str q), .string ⟨#[64]⟩] W fun r w' => r = .returned (.int .i64 ((Url.upto [64] q).length : Nat)) ∧ w' = W := fun W => Runtil_any q [64] W (by omega) (by decide)
  have uc : ∀ W : World, Calls Tryz.prog 39 #[.string (str q), .string ⟨#[58]⟩] W fun r w' => r = .returned (.int .i64 ((Url.upto [58] q).length : Nat)) ∧ w' = W := fun W => Runtil_any q [58] W (by omega) (by decide)
  have hsz := str_size q
  generalize (Url.upto [64] q).length = ka at hlt hal ua
  generalize Pl.url s q = v at HVY HVN ⊢
  generalize Pl.err q = pe at HVY HVN HPE ⊢
  unfold uVal at hzu
  unfold uVal
  unfold uCells at hzu hT0 ⊢
  by_cases hat : q.contains 64 = true
  · have HE : Hid (pe = 3) := HPE.out.trans (if_pos hat)
    have HV : Hid (v = Url.zero) := HVN.out (by rw [HE.out]; decide)
    have hka : (ka : Int) < (q.length : Int) := by have := hlt.2 hat; omega
    clear hlt hat HPE HVY HVN hal
    go_enter Tryz.func40, Tryz.ntmps40
    go_wp2_with (first
        | (go_at_call 39; refine (ua _).mono ?_; rintro e w1 ⟨rfl, hw1⟩; rw [hw1]; clear hw1 ua)
        | ((with_reducible show wpList _ _ _ ({ dst := _, op := Op.store 25 _ _, type := _, pos := _, after := _, guard := _ } :: _) _ _); refine wpList_store_U _ _ rfl rfl (w.heap.size + 1) Url.zero Url.zero rfl rfl hT0.res ?_))
    refine ret_U2 (u := Url.zero) rfl rfl rfl rfl (setRow_U hT0.res) ⟨?_, below_setRow hT0.bel (by omega) _⟩
    rw [HV.out, HE.out]
    rfl
  · have hka : ¬ (ka : Int) < (q.length : Int) := fun h => hat (hlt.1 (by omega))
    replace HPE : Hid _ := HPE.out.trans (if_neg hat)
    have hut := upto_take [58] q
    have hul := Url.upto_len [58] q
    have hrl := Url.rest_len [58] q
    have hrh := Url.rest_head [58] q
    have hsp := Url.upto_rest [58] q
    clear hlt hat hal
    generalize Url.rest [58] q = r at HVY HPE hut hrl hrh hsp
    generalize Url.upto [58] q = a at HVY HPE hut hul uc hsp
    have hc : ∀ W : World, Calls Tryz.prog 71 #[.string (str a)] W fun e w' => e = .returned (.tuple #[.string (str (Url.host a)), .int .i64 (Url.hostE a)]) ∧ Below W.heap.size W w' := fun W => RHost_any a W (by omega)
    generalize Url.host a = h at HVY hc
    generalize Url.hostE a = he at HPE hc
    have hlen : q.length = a.length + r.length := by rw [← hsp, List.length_append]
    clear hsp
    obtain ⟨n, hn⟩ : ∃ n, a.length = n := ⟨_, rfl⟩
    rw [hn] at hut uc hul hlen
    clear hn
    have x1 : (str q).extract 0 n = str a := by rw [str_to, hut.1]
    by_cases hhe : he = 0
    · subst hhe
      replace HPE : Hid (pe = Url.portE (r.drop 1)) := HPE.out.trans (if_neg (by decide))
      cases r with
      | nil =>
        have HE : Hid (pe = 0) := HPE.out.trans (if_pos (.inl rfl))
        have HV : Hid (v = { Url.zero with sch := s, host := h, port := 0 }) := HVY.out HE.out
        have hnl : ¬ (n : Int) < (q.length : Int) := by rw [List.length_nil] at hlen; omega
        clear HVY HVN HPE hut hrl hrh hlen
        rcases hS with hS | hS
        · have n1 : ((str s).toList == [104, 116, 116, 112]) = true := eq_list hS
          have n2 : ((str s).toList == [104, 116, 116, 112, 115]) = false := by rw [hS]; exact ne_list (by decide)
          clear hS
          go_enter Tryz.func40, Tryz.ntmps40
          go_wp2_with (first
              | (go_at_call 39; refine (ua _).mono ?_; rintro e w1 ⟨rfl, hw1⟩; rw [hw1]; clear hw1 ua)
              | (go_at_call 39; refine (uc _).mono ?_; rintro e w1 ⟨rfl, hw1⟩; rw [hw1]; clear hw1 uc)
              | (go_at_call 71; refine (hc _).mono ?_; rintro e w2 ⟨rfl, hb2⟩; have hT2 := hT0.step hb2; have c20 : w2.cell? ⟨w.heap.size, 0, none⟩ = some (.string (str s)) := hT2.at_.cell 0; have c21 : w2.cell? ⟨w.heap.size, 1, none⟩ = some (.string (str [])) := hT2.at_.cell 1; have f21 := hT2.at_.frozen 1; have c22 : w2.cell? ⟨w.heap.size, 2, none⟩ = some (.int .i64 0) := hT2.at_.cell 2; have hT3 := hT2.host h)
              | ((with_reducible show wpList _ _ _ ({ dst := _, op := Op.load 25 _, type := _, pos := _, after := _, guard := _ } :: _) _ _); refine wpList_load_U _ rfl rfl w.heap.size { Url.zero with sch := s, host := h, port := 0 } rfl ?_ ?_; exact hT3.at_)
              | ((with_reducible show wpList _ _ _ ({ dst := _, op := Op.store 25 _ _, type := _, pos := _, after := _, guard := _ } :: _) _ _); refine wpList_store_U _ _ rfl rfl (w.heap.size + 1) { Url.zero with sch := s, host := h, port := 0 } Url.zero rfl rfl ?_ ?_; exact hT3.res))
          refine ret_U2 (u := { Url.zero with sch := s, host := h, port := 0 }) rfl rfl rfl rfl (setRow_U hT3.res) ⟨?_, below_setRow hT3.bel (by omega) _⟩
          rw [HV.out, HE.out]
          rfl
        · have n1 : ((str s).toList == [104, 116, 116, 112]) = false := by rw [hS]; exact ne_list (by decide)
          have n2 : ((str s).toList == [104, 116, 116, 112, 115]) = true := eq_list hS
          clear hS
          go_enter Tryz.func40, Tryz.ntmps40
          go_wp2_with (first
              | (go_at_call 39; refine (ua _).mono ?_; rintro e w1 ⟨rfl, hw1⟩; rw [hw1]; clear hw1 ua)
              | (go_at_call 39; refine (uc _).mono ?_; rintro e w1 ⟨rfl, hw1⟩; rw [hw1]; clear hw1 uc)
              | (go_at_call 71; refine (hc _).mono ?_; rintro e w2 ⟨rfl, hb2⟩; have hT2 := hT0.step hb2; have c20 : w2.cell? ⟨w.heap.size, 0, none⟩ = some (.string (str s)) := hT2.at_.cell 0; have c21 : w2.cell? ⟨w.heap.size, 1, none⟩ = some (.string (str [])) := hT2.at_.cell 1; have f21 := hT2.at_.frozen 1; have c22 : w2.cell? ⟨w.heap.size, 2, none⟩ = some (.int .i64 0) := hT2.at_.cell 2; have hT3 := hT2.host h)
              | ((with_reducible show wpList _ _ _ ({ dst := _, op := Op.load 25 _, type := _, pos := _, after := _, guard := _ } :: _) _ _); refine wpList_load_U _ rfl rfl w.heap.size { Url.zero with sch := s, host := h, port := 0 } rfl ?_ ?_; exact hT3.at_)
              | ((with_reducible show wpList _ _ _ ({ dst := _, op := Op.store 25 _ _, type := _, pos := _, after := _, guard := _ } :: _) _ _); refine wpList_store_U _ _ rfl rfl (w.heap.size + 1) { Url.zero with sch := s, host := h, port := 0 } Url.zero rfl rfl ?_ ?_; exact hT3.res))
          refine ret_U2 (u := { Url.zero with sch := s, host := h, port := 0 }) rfl rfl rfl rfl (setRow_U hT3.res) ⟨?_, below_setRow hT3.bel (by omega) _⟩
          rw [HV.out, HE.out]
          rfl
      | cons x d =>
        have hx : x = 58 := by
          have := hrh x rfl
          simpa using this
        subst hx
        replace HPE : Hid (pe = Url.portE d) := HPE
        replace HVY : Hid (pe = 0 → v = { Url.zero with sch := s, host := h, port := Url.port s d }) := HVY
        rw [List.length_cons] at hrl hlen
        have hnl : (n : Int) < (q.length : Int) := by omega
        obtain ⟨m, hm⟩ : ∃ m, n + 1 = m := ⟨_, rfl⟩
        have x2 : (str q).extract m q.length = str d := by
          rw [← hm, str_from, ← List.drop_drop, hut.2]
          rfl
        have hml : m ≤ q.length := by omega
        have hmi : (n : Int) + 1 = (m : Int) := by omega
        have hdl : d.length ≤ 10000000 := by omega
        clear hut hrh hlen hrl
        by_cases hd : d = []
        · have HE : Hid (pe = 0) := HPE.out.trans (if_pos (.inl hd))
          have HV : Hid (v = { Url.zero with sch := s, host := h, port := 0 }) := by
            have := HVY.out HE.out
            rw [show Url.port s d = 0 from if_pos hd] at this
            exact this
          have hde := empty_is hd
          clear HVY HVN HPE hd
          rcases hS with hS | hS
          · have n1 : ((str s).toList == [104, 116, 116, 112]) = true := eq_list hS
            have n2 : ((str s).toList == [104, 116, 116, 112, 115]) = false := by rw [hS]; exact ne_list (by decide)
            clear hS
            go_enter Tryz.func40, Tryz.ntmps40
            go_wp2_with (first
                | (go_at_call 39; refine (ua _).mono ?_; rintro e w1 ⟨rfl, hw1⟩; rw [hw1]; clear hw1 ua)
                | (go_at_call 39; refine (uc _).mono ?_; rintro e w1 ⟨rfl, hw1⟩; rw [hw1]; clear hw1 uc)
                | (go_at_call 71; refine (hc _).mono ?_; rintro e w2 ⟨rfl, hb2⟩; have hT2 := hT0.step hb2; have c20 : w2.cell? ⟨w.heap.size, 0, none⟩ = some (.string (str s)) := hT2.at_.cell 0; have c21 : w2.cell? ⟨w.heap.size, 1, none⟩ = some (.string (str [])) := hT2.at_.cell 1; have f21 := hT2.at_.frozen 1; have c22 : w2.cell? ⟨w.heap.size, 2, none⟩ = some (.int .i64 0) := hT2.at_.cell 2; have hT3 := hT2.host h)
                | ((with_reducible show wpList _ _ _ ({ dst := _, op := Op.load 25 _, type := _, pos := _, after := _, guard := _ } :: _) _ _); refine wpList_load_U _ rfl rfl w.heap.size { Url.zero with sch := s, host := h, port := 0 } rfl ?_ ?_; exact hT3.at_)
                | ((with_reducible show wpList _ _ _ ({ dst := _, op := Op.store 25 _ _, type := _, pos := _, after := _, guard := _ } :: _) _ _); refine wpList_store_U _ _ rfl rfl (w.heap.size + 1) { Url.zero with sch := s, host := h, port := 0 } Url.zero rfl rfl ?_ ?_; exact hT3.res))
            refine ret_U2 (u := { Url.zero with sch := s, host := h, port := 0 }) rfl rfl rfl rfl (setRow_U hT3.res) ⟨?_, below_setRow hT3.bel (by omega) _⟩
            rw [HV.out, HE.out]
            rfl
          · have n1 : ((str s).toList == [104, 116, 116, 112]) = false := by rw [hS]; exact ne_list (by decide)
            have n2 : ((str s).toList == [104, 116, 116, 112, 115]) = true := eq_list hS
            clear hS
            go_enter Tryz.func40, Tryz.ntmps40
            go_wp2_with (first
                | (go_at_call 39; refine (ua _).mono ?_; rintro e w1 ⟨rfl, hw1⟩; rw [hw1]; clear hw1 ua)
                | (go_at_call 39; refine (uc _).mono ?_; rintro e w1 ⟨rfl, hw1⟩; rw [hw1]; clear hw1 uc)
                | (go_at_call 71; refine (hc _).mono ?_; rintro e w2 ⟨rfl, hb2⟩; have hT2 := hT0.step hb2; have c20 : w2.cell? ⟨w.heap.size, 0, none⟩ = some (.string (str s)) := hT2.at_.cell 0; have c21 : w2.cell? ⟨w.heap.size, 1, none⟩ = some (.string (str [])) := hT2.at_.cell 1; have f21 := hT2.at_.frozen 1; have c22 : w2.cell? ⟨w.heap.size, 2, none⟩ = some (.int .i64 0) := hT2.at_.cell 2; have hT3 := hT2.host h)
                | ((with_reducible show wpList _ _ _ ({ dst := _, op := Op.load 25 _, type := _, pos := _, after := _, guard := _ } :: _) _ _); refine wpList_load_U _ rfl rfl w.heap.size { Url.zero with sch := s, host := h, port := 0 } rfl ?_ ?_; exact hT3.at_)
                | ((with_reducible show wpList _ _ _ ({ dst := _, op := Op.store 25 _ _, type := _, pos := _, after := _, guard := _ } :: _) _ _); refine wpList_store_U _ _ rfl rfl (w.heap.size + 1) { Url.zero with sch := s, host := h, port := 0 } Url.zero rfl rfl ?_ ?_; exact hT3.res))
            refine ret_U2 (u := { Url.zero with sch := s, host := h, port := 0 }) rfl rfl rfl rfl (setRow_U hT3.res) ⟨?_, below_setRow hT3.bel (by omega) _⟩
            rw [HV.out, HE.out]
            rfl
        · have hde := empty_isnt hd
          have nc : ∀ W : World, Calls Tryz.prog 72 #[.string (str d), .int .i64 65535] W fun e w' => e = .returned (.tuple #[.int .i64 (Asc.numNum d 65535), .int .i64 (Asc.numErr d 65535)]) ∧ w' = W := fun W => RNumber_str d 65535 W (by omega) (by decide) (by decide)
          by_cases hne : Asc.numErr d 65535 = 0
          · have hrb := Asc.read_back d 65535 (by decide) hne
            have p0 := hrb.1
            have p1 := hrb.2.1
            clear hrb
            have HE : Hid (pe = 0) := HPE.out.trans (if_pos (.inr hne))
            have hpt : Url.port s d = if Asc.numNum d 65535 = Url.own s then 0 else Asc.numNum d 65535 := if_neg hd
            rw [hne] at nc
            have HV0 := HVY.out HE.out
            rw [hpt] at HV0
            clear hpt HVY HVN HPE hd hne
            generalize Asc.numNum d 65535 = p at nc p0 p1 HV0
            by_cases hpo : p = Url.own s
            · have HV : Hid (v = { Url.zero with sch := s, host := h, port := 0 }) := by
                rw [if_pos hpo] at HV0
                exact HV0
              clear HV0
              rcases hS with hS | hS
              · have n1 : ((str s).toList == [104, 116, 116, 112]) = true := eq_list hS
                have n2 : ((str s).toList == [104, 116, 116, 112, 115]) = false := by rw [hS]; exact ne_list (by decide)
                have hp : p = 80 := by rw [hpo, hS]; rfl
                subst hp
                clear hS hpo p0 p1
                go_enter Tryz.func40, Tryz.ntmps40
                go_wp2_with (first
                    | (go_at_call 39; refine (ua _).mono ?_; rintro e w1 ⟨rfl, hw1⟩; rw [hw1]; clear hw1 ua)
                    | (go_at_call 39; refine (uc _).mono ?_; rintro e w1 ⟨rfl, hw1⟩; rw [hw1]; clear hw1 uc)
                    | (go_at_call 71; refine (hc _).mono ?_; rintro e w2 ⟨rfl, hb2⟩; have hT2 := hT0.step hb2; have c20 : w2.cell? ⟨w.heap.size, 0, none⟩ = some (.string (str s)) := hT2.at_.cell 0; have c21 : w2.cell? ⟨w.heap.size, 1, none⟩ = some (.string (str [])) := hT2.at_.cell 1; have f21 := hT2.at_.frozen 1; have c22 : w2.cell? ⟨w.heap.size, 2, none⟩ = some (.int .i64 0) := hT2.at_.cell 2; have hT3 := hT2.host h))
                clear c20 c21 f21 c22 hT2 hb2
                generalize w2.setCell ⟨w.heap.size, 1, none⟩ (.string (str h)) = w3 at hT3 ⊢
                go_at_call 72
                refine (nc w3).mono ?_
                rintro e w4 ⟨rfl, hw4⟩
                rw [hw4]
                clear hw4
                have c30 : w3.cell? ⟨w.heap.size, 0, none⟩ = some (.string (str s)) := hT3.at_.cell 0
                have c32 : w3.cell? ⟨w.heap.size, 2, none⟩ = some (.int .i64 0) := hT3.at_.cell 2
                have f32 := hT3.at_.frozen 2
                have hT4 := (hT3.port 80).port 0
                go_wp2_with (first
                    | ((with_reducible show wpList _ _ _ ({ dst := _, op := Op.load 25 _, type := _, pos := _, after := _, guard := _ } :: _) _ _); refine wpList_load_U _ rfl rfl w.heap.size { Url.zero with sch := s, host := h, port := 0 } rfl ?_ ?_; exact hT4.at_)
                    | ((with_reducible show wpList _ _ _ ({ dst := _, op := Op.store 25 _ _, type := _, pos := _, after := _, guard := _ } :: _) _ _); refine wpList_store_U _ _ rfl rfl (w.heap.size + 1) { Url.zero with sch := s, host := h, port := 0 } Url.zero rfl rfl ?_ ?_; exact hT4.res))
                refine ret_U2 (u := { Url.zero with sch := s, host := h, port := 0 }) rfl rfl rfl rfl (setRow_U hT4.res) ⟨?_, below_setRow hT4.bel (by omega) _⟩
                rw [HV.out, HE.out]
                rfl
              · have n1 : ((str s).toList == [104, 116, 116, 112]) = false := by rw [hS]; exact ne_list (by decide)
                have n2 : ((str s).toList == [104, 116, 116, 112, 115]) = true := eq_list hS
                have hp : p = 443 := by rw [hpo, hS]; rfl
                subst hp
                clear hS hpo p0 p1
                go_enter Tryz.func40, Tryz.ntmps40
                go_wp2_with (first
                    | (go_at_call 39; refine (ua _).mono ?_; rintro e w1 ⟨rfl, hw1⟩; rw [hw1]; clear hw1 ua)
                    | (go_at_call 39; refine (uc _).mono ?_; rintro e w1 ⟨rfl, hw1⟩; rw [hw1]; clear hw1 uc)
                    | (go_at_call 71; refine (hc _).mono ?_; rintro e w2 ⟨rfl, hb2⟩; have hT2 := hT0.step hb2; have c20 : w2.cell? ⟨w.heap.size, 0, none⟩ = some (.string (str s)) := hT2.at_.cell 0; have c21 : w2.cell? ⟨w.heap.size, 1, none⟩ = some (.string (str [])) := hT2.at_.cell 1; have f21 := hT2.at_.frozen 1; have c22 : w2.cell? ⟨w.heap.size, 2, none⟩ = some (.int .i64 0) := hT2.at_.cell 2; have hT3 := hT2.host h))
                clear c20 c21 f21 c22 hT2 hb2
                generalize w2.setCell ⟨w.heap.size, 1, none⟩ (.string (str h)) = w3 at hT3 ⊢
                go_at_call 72
                refine (nc w3).mono ?_
                rintro e w4 ⟨rfl, hw4⟩
                rw [hw4]
                clear hw4
                have c30 : w3.cell? ⟨w.heap.size, 0, none⟩ = some (.string (str s)) := hT3.at_.cell 0
                have c32 : w3.cell? ⟨w.heap.size, 2, none⟩ = some (.int .i64 0) := hT3.at_.cell 2
                have f32 := hT3.at_.frozen 2
                have hT4 := (hT3.port 443).port 0
                go_wp2_with (first
                    | ((with_reducible show wpList _ _ _ ({ dst := _, op := Op.load 25 _, type := _, pos := _, after := _, guard := _ } :: _) _ _); refine wpList_load_U _ rfl rfl w.heap.size { Url.zero with sch := s, host := h, port := 0 } rfl ?_ ?_; exact hT4.at_)
                    | ((with_reducible show wpList _ _ _ ({ dst := _, op := Op.store 25 _ _, type := _, pos := _, after := _, guard := _ } :: _) _ _); refine wpList_store_U _ _ rfl rfl (w.heap.size + 1) { Url.zero with sch := s, host := h, port := 0 } Url.zero rfl rfl ?_ ?_; exact hT4.res))
                refine ret_U2 (u := { Url.zero with sch := s, host := h, port := 0 }) rfl rfl rfl rfl (setRow_U hT4.res) ⟨?_, below_setRow hT4.bel (by omega) _⟩
                rw [HV.out, HE.out]
                rfl
            · have HV : Hid (v = { Url.zero with sch := s, host := h, port := p }) := by
                rw [if_neg hpo] at HV0
                exact HV0
              clear HV0
              rcases hS with hS | hS
              · have n1 : ((str s).toList == [104, 116, 116, 112]) = true := eq_list hS
                have n2 : ((str s).toList == [104, 116, 116, 112, 115]) = false := by rw [hS]; exact ne_list (by decide)
                have hp : (p == 80) = false := by
                  rw [beq_eq_false_iff_ne]
                  intro e
                  exact hpo (by rw [e, hS]; rfl)
                clear hS hpo
                go_enter Tryz.func40, Tryz.ntmps40
                go_wp2_with (first
                    | (go_at_call 39; refine (ua _).mono ?_; rintro e w1 ⟨rfl, hw1⟩; rw [hw1]; clear hw1 ua)
                    | (go_at_call 39; refine (uc _).mono ?_; rintro e w1 ⟨rfl, hw1⟩; rw [hw1]; clear hw1 uc)
                    | (go_at_call 71; refine (hc _).mono ?_; rintro e w2 ⟨rfl, hb2⟩; have hT2 := hT0.step hb2; have c20 : w2.cell? ⟨w.heap.size, 0, none⟩ = some (.string (str s)) := hT2.at_.cell 0; have c21 : w2.cell? ⟨w.heap.size, 1, none⟩ = some (.string (str [])) := hT2.at_.cell 1; have f21 := hT2.at_.frozen 1; have c22 : w2.cell? ⟨w.heap.size, 2, none⟩ = some (.int .i64 0) := hT2.at_.cell 2; have hT3 := hT2.host h))
                clear c20 c21 f21 c22 hT2 hb2
                generalize w2.setCell ⟨w.heap.size, 1, none⟩ (.string (str h)) = w3 at hT3 ⊢
                go_at_call 72
                refine (nc w3).mono ?_
                rintro e w4 ⟨rfl, hw4⟩
                rw [hw4]
                clear hw4
                have c30 : w3.cell? ⟨w.heap.size, 0, none⟩ = some (.string (str s)) := hT3.at_.cell 0
                have c32 : w3.cell? ⟨w.heap.size, 2, none⟩ = some (.int .i64 0) := hT3.at_.cell 2
                have f32 := hT3.at_.frozen 2
                have hT4 := hT3.port p
                go_wp2_with (first
                    | ((with_reducible show wpList _ _ _ ({ dst := _, op := Op.load 25 _, type := _, pos := _, after := _, guard := _ } :: _) _ _); refine wpList_load_U _ rfl rfl w.heap.size { Url.zero with sch := s, host := h, port := p } rfl ?_ ?_; exact hT4.at_)
                    | ((with_reducible show wpList _ _ _ ({ dst := _, op := Op.store 25 _ _, type := _, pos := _, after := _, guard := _ } :: _) _ _); refine wpList_store_U _ _ rfl rfl (w.heap.size + 1) { Url.zero with sch := s, host := h, port := p } Url.zero rfl rfl ?_ ?_; exact hT4.res))
                refine ret_U2 (u := { Url.zero with sch := s, host := h, port := p }) rfl rfl rfl rfl (setRow_U hT4.res) ⟨?_, below_setRow hT4.bel (by omega) _⟩
                rw [HV.out, HE.out]
                rfl
              · have n1 : ((str s).toList == [104, 116, 116, 112]) = false := by rw [hS]; exact ne_list (by decide)
                have n2 : ((str s).toList == [104, 116, 116, 112, 115]) = true := eq_list hS
                have hp : (p == 443) = false := by
                  rw [beq_eq_false_iff_ne]
                  intro e
                  exact hpo (by rw [e, hS]; rfl)
                clear hS hpo
                go_enter Tryz.func40, Tryz.ntmps40
                go_wp2_with (first
                    | (go_at_call 39; refine (ua _).mono ?_; rintro e w1 ⟨rfl, hw1⟩; rw [hw1]; clear hw1 ua)
                    | (go_at_call 39; refine (uc _).mono ?_; rintro e w1 ⟨rfl, hw1⟩; rw [hw1]; clear hw1 uc)
                    | (go_at_call 71; refine (hc _).mono ?_; rintro e w2 ⟨rfl, hb2⟩; have hT2 := hT0.step hb2; have c20 : w2.cell? ⟨w.heap.size, 0, none⟩ = some (.string (str s)) := hT2.at_.cell 0; have c21 : w2.cell? ⟨w.heap.size, 1, none⟩ = some (.string (str [])) := hT2.at_.cell 1; have f21 := hT2.at_.frozen 1; have c22 : w2.cell? ⟨w.heap.size, 2, none⟩ = some (.int .i64 0) := hT2.at_.cell 2; have hT3 := hT2.host h))
                clear c20 c21 f21 c22 hT2 hb2
                generalize w2.setCell ⟨w.heap.size, 1, none⟩ (.string (str h)) = w3 at hT3 ⊢
                go_at_call 72
                refine (nc w3).mono ?_
                rintro e w4 ⟨rfl, hw4⟩
                rw [hw4]
                clear hw4
                have c30 : w3.cell? ⟨w.heap.size, 0, none⟩ = some (.string (str s)) := hT3.at_.cell 0
                have c32 : w3.cell? ⟨w.heap.size, 2, none⟩ = some (.int .i64 0) := hT3.at_.cell 2
                have f32 := hT3.at_.frozen 2
                have hT4 := hT3.port p
                go_wp2_with (first
                    | ((with_reducible show wpList _ _ _ ({ dst := _, op := Op.load 25 _, type := _, pos := _, after := _, guard := _ } :: _) _ _); refine wpList_load_U _ rfl rfl w.heap.size { Url.zero with sch := s, host := h, port := p } rfl ?_ ?_; exact hT4.at_)
                    | ((with_reducible show wpList _ _ _ ({ dst := _, op := Op.store 25 _ _, type := _, pos := _, after := _, guard := _ } :: _) _ _); refine wpList_store_U _ _ rfl rfl (w.heap.size + 1) { Url.zero with sch := s, host := h, port := p } Url.zero rfl rfl ?_ ?_; exact hT4.res))
                refine ret_U2 (u := { Url.zero with sch := s, host := h, port := p }) rfl rfl rfl rfl (setRow_U hT4.res) ⟨?_, below_setRow hT4.bel (by omega) _⟩
                rw [HV.out, HE.out]
                rfl
          · have HE : Hid (pe = 3) := HPE.out.trans (if_neg (fun h => h.elim hd hne))
            have HV : Hid (v = Url.zero) := HVN.out (by rw [HE.out]; decide)
            have hnb : (Asc.numErr d 65535 != 0) = true := by rw [bne_iff_ne]; exact hne
            clear HPE HVY HVN hne hd hS
            go_enter Tryz.func40, Tryz.ntmps40
            go_wp2_with (first
                | (go_at_call 39; refine (ua _).mono ?_; rintro e w1 ⟨rfl, hw1⟩; rw [hw1]; clear hw1 ua)
                | (go_at_call 39; refine (uc _).mono ?_; rintro e w1 ⟨rfl, hw1⟩; rw [hw1]; clear hw1 uc)
                | (go_at_call 71; refine (hc _).mono ?_; rintro e w2 ⟨rfl, hb2⟩; have hT2 := hT0.step hb2; have c20 : w2.cell? ⟨w.heap.size, 0, none⟩ = some (.string (str s)) := hT2.at_.cell 0; have c21 : w2.cell? ⟨w.heap.size, 1, none⟩ = some (.string (str [])) := hT2.at_.cell 1; have f21 := hT2.at_.frozen 1; have c22 : w2.cell? ⟨w.heap.size, 2, none⟩ = some (.int .i64 0) := hT2.at_.cell 2; have hT3 := hT2.host h))
            clear c20 c21 f21 c22 hT2 hb2
            generalize w2.setCell ⟨w.heap.size, 1, none⟩ (.string (str h)) = w3 at hT3 ⊢
            go_at_call 72
            refine (nc w3).mono ?_
            rintro e w4 ⟨rfl, hw4⟩
            rw [hw4]
            clear hw4
            have c30 : w3.cell? ⟨w.heap.size, 0, none⟩ = some (.string (str s)) := hT3.at_.cell 0
            have c32 : w3.cell? ⟨w.heap.size, 2, none⟩ = some (.int .i64 0) := hT3.at_.cell 2
            have f32 := hT3.at_.frozen 2
            go_wp2_with (first
                | ((with_reducible show wpList _ _ _ ({ dst := _, op := Op.store 25 _ _, type := _, pos := _, after := _, guard := _ } :: _) _ _); refine wpList_store_U _ _ rfl rfl (w.heap.size + 1) Url.zero Url.zero rfl rfl hT3.res ?_))
            refine ret_U2 (u := Url.zero) rfl rfl rfl rfl (setRow_U hT3.res) ⟨?_, below_setRow hT3.bel (by omega) _⟩
            rw [HV.out, HE.out]
            rfl
    · have HE : Hid (pe = he) := HPE.out.trans (if_pos hhe)
      have HV : Hid (v = Url.zero) := HVN.out (by rw [HE.out]; exact hhe)
      have hhb : (he != 0) = true := by rw [bne_iff_ne]; exact hhe
      clear HPE HVY HVN hhe hut hrl hrh hlen hS
      go_enter Tryz.func40, Tryz.ntmps40
      go_wp2_with (first
          | (go_at_call 39; refine (ua _).mono ?_; rintro e w1 ⟨rfl, hw1⟩; rw [hw1]; clear hw1 ua)
          | (go_at_call 39; refine (uc _).mono ?_; rintro e w1 ⟨rfl, hw1⟩; rw [hw1]; clear hw1 uc)
          | (go_at_call 71; refine (hc _).mono ?_; rintro e w2 ⟨rfl, hb2⟩; have hT2 := hT0.step hb2; have c20 : w2.cell? ⟨w.heap.size, 0, none⟩ = some (.string (str s)) := hT2.at_.cell 0; have c21 : w2.cell? ⟨w.heap.size, 1, none⟩ = some (.string (str [])) := hT2.at_.cell 1; have f21 := hT2.at_.frozen 1; have c22 : w2.cell? ⟨w.heap.size, 2, none⟩ = some (.int .i64 0) := hT2.at_.cell 2; have hT3 := hT2.host h)
          | ((with_reducible show wpList _ _ _ ({ dst := _, op := Op.store 25 _ _, type := _, pos := _, after := _, guard := _ } :: _) _ _); refine wpList_store_U _ _ rfl rfl (w.heap.size + 1) Url.zero Url.zero rfl rfl hT2.res ?_))
      refine ret_U2 (u := Url.zero) rfl rfl rfl rfl (setRow_U hT2.res) ⟨?_, below_setRow hT2.bel (by omega) _⟩
      rw [HV.out, HE.out]
      rfl
end Go.Proofs.YtnmkhbelmdokmaaGreatDoor
/- Steps of regions that draw their order: what moves, slices and extracts yield in whatever world; loads and stores of a URL. -/
namespace Go.Proofs.YtnmkhbelmdokmaaGreatDoor
open Go.RowKit
theorem step_load_U {ops : Array Oper} {o : Oper} {a : Act} {w : World} {K : Act → World → Prop} {Q : Exit → Act → World → Prop} {E : Prop} (x : Operand) (ho : o.op = .load 25 x) (hg : o.guard = none) (b : Nat) (u : Url.U) (hx : a.eval x = .pointer (some ⟨b, 0, none⟩)) (h : UAt w b u)
    (hK : K (a.put o.dst (uVal u)) w) : if Region.wanted o (yielded ops a.tmps) = true then Oper.wp Tryz.prog o a w K Q else E := by
  have hw : Region.wanted o (yielded ops a.tmps) = true := by simp [Region.wanted, hg]
  rw [if_pos hw]
  unfold Oper.wp
  have e : (execOp a.eval o).run Tryz.prog w = .ok (.value (uVal u)) w := by
    unfold execOp
    rw [ho]
    simp only [hx, Sem.run_bind, loadAt_U h, Result.andThen, Sem.run_pure]
  rw [e, Oper.upon_value]
  exact hK
theorem step_store_U {ops : Array Oper} {o : Oper} {a : Act} {w : World} {K : Act → World → Prop} {Q : Exit → Act → World → Prop} {E : Prop} (x y : Operand) (ho : o.op = .store 25 x y) (hg : o.guard = none) (b : Nat) (u v : Url.U) (hx : a.eval x = .pointer (some ⟨b, 0, none⟩)) (hy : a.eval y = uVal u) (h : UAt w b v)
    (hK : K (a.put o.dst undef) (w.setRow b (uCells u))) : if Region.wanted o (yielded ops a.tmps) = true then Oper.wp Tryz.prog o a w K Q else E := by
  have hw : Region.wanted o (yielded ops a.tmps) = true := by simp [Region.wanted, hg]
  rw [if_pos hw]
  unfold Oper.wp
  have e : (execOp a.eval o).run Tryz.prog w = .ok .skip (w.setRow b (uCells u)) := by
    unfold execOp
    rw [ho]
    simp only [hx, hy, Sem.run_bind, storeAt_U h, Result.andThen, Sem.run_pure]
  rw [e, Oper.upon_skip]
  exact hK
theorem any_load_U {md : Region.Mode} {ops : Array Oper} {Q : Exit → Act → World → Prop} {fuel : Nat} {listed : Array Bool} {a : Act} {w : World} (i : Nat) {o : Oper} (hr : Region.ready md ops listed = [i]) (hi : ops[i]? = some o) (x : Operand) (ho : o.op = .load 25 x) (hg : o.guard = none) (b : Nat) (u : Url.U) (hx : a.eval x = .pointer (some ⟨b, 0, none⟩)) (h : UAt w b u)
    (hK : wpAny Tryz.prog md ops Q fuel (listed.setIfInBounds i true) (a.put o.dst (uVal u)) w) : wpAny Tryz.prog md ops Q (fuel + 1) listed a w :=
  wpAny_ready hr (by simp) (AllReady.cons hi (fun _ h2 => step_load_U x ho hg b u hx h (h2 _ _ hK)) AllReady.nil)
theorem any_store_U {md : Region.Mode} {ops : Array Oper} {Q : Exit → Act → World → Prop} {fuel : Nat} {listed : Array Bool} {a : Act} {w : World} (i : Nat) {o : Oper} (hr : Region.ready md ops listed = [i]) (hi : ops[i]? = some o) (x y : Operand) (ho : o.op = .store 25 x y) (hg : o.guard = none) (b : Nat) (u v : Url.U) (hx : a.eval x = .pointer (some ⟨b, 0, none⟩)) (hy : a.eval y = uVal u) (h : UAt w b v)
    (hK : wpAny Tryz.prog md ops Q fuel (listed.setIfInBounds i true) (a.put o.dst undef) (w.setRow b (uCells u))) : wpAny Tryz.prog md ops Q (fuel + 1) listed a w :=
  wpAny_ready hr (by simp) (AllReady.cons hi (fun _ h2 => step_store_U x y ho hg b u v hx hy h (h2 _ _ hK)) AllReady.nil)
theorem step_call {ops : Array Oper} {o : Oper} {a : Act} {w : World} {K : Act → World → Prop} {Q : Exit → Act → World → Prop} {E : Prop} (hg : o.guard = none) (hK : Oper.wp Tryz.prog o a w K Q) : if Region.wanted o (yielded ops a.tmps) = true then Oper.wp Tryz.prog o a w K Q else E := by
  have hw : Region.wanted o (yielded ops a.tmps) = true := by simp [Region.wanted, hg]
  rw [if_pos hw]
  exact hK
theorem y_move {ops : Array Oper} {o : Oper} {a : Act} {v : Value} (x : Operand) (ho : o.op = .move x) (hg : o.guard = none) (hx : a.eval x = v) : Yields Tryz.prog ops o v a :=
  (.inl ⟨by simp [Region.wanted, hg], fun w => by unfold execOp; rw [ho]; simp only [hx, Sem.run_pure]⟩)
theorem y_assign {ops : Array Oper} {o : Oper} {a : Act} {v : Value} (x : Operand) (ho : o.op = .assign x) (hg : o.guard = none) (hx : a.eval x = v) : Yields Tryz.prog ops o v a :=
  (.inl ⟨by simp [Region.wanted, hg], fun w => by unfold execOp; rw [ho]; simp only [hx, Sem.run_pure]⟩)
theorem y_slice_to {ops : Array Oper} {o : Oper} {a : Act} {l r : List UInt8} {k : Int} (x y : Operand) (ho : o.op = .slice 9 x none (some y) none) (hg : o.guard = none) (hx : a.eval x = .string (str l)) (hy : a.eval y = .int .i64 k) (h0 : 0 ≤ k) (h1 : k ≤ (l.length : Int)) (hr : l.take k.toNat = r) : Yields Tryz.prog ops o (.string (str r)) a :=
  (.inl ⟨by simp [Region.wanted, hg], fun w => by
    unfold execOp
    rw [ho]
    simp only [hx, hy, Option.map_some, Option.map_none, run_sliceAt_string (P := Tryz.prog) (h := Tryz.underlying9), run_slice_string_to_if (P := Tryz.prog) (h := Tryz.underlying9), str_size, if_pos (And.intro h0 h1), Sem.run_bind, Result.andThen, Sem.run_pure]
    rw [str_to, hr]⟩)
theorem y_slice_from {ops : Array Oper} {o : Oper} {a : Act} {l r : List UInt8} {k : Int} (x y : Operand) (ho : o.op = .slice 9 x (some y) none none) (hg : o.guard = none) (hx : a.eval x = .string (str l)) (hy : a.eval y = .int .i64 k) (h0 : 0 ≤ k) (h1 : k ≤ (l.length : Int)) (hr : l.drop k.toNat = r) : Yields Tryz.prog ops o (.string (str r)) a :=
  (.inl ⟨by simp [Region.wanted, hg], fun w => by
    unfold execOp
    rw [ho]
    simp only [hx, hy, Option.map_some, Option.map_none, run_sliceAt_string (P := Tryz.prog) (h := Tryz.underlying9), run_slice_string_from_if (P := Tryz.prog) (h := Tryz.underlying9), str_size, if_pos (And.intro h0 h1), Sem.run_bind, Result.andThen, Sem.run_pure]
    rw [str_from, hr]⟩)
theorem y_extract {ops : Array Oper} {o : Oper} {a : Act} {vs : Array Value} {v : Value} (x : Operand) (n : Nat) (ho : o.op = .extract x n) (hg : o.guard = none) (hx : a.eval x = .tuple vs) (hv : vs[n]? = some v) : Yields Tryz.prog ops o v a :=
  (.inl ⟨by simp [Region.wanted, hg], fun w => by
    unfold execOp
    rw [ho]
    simp [hx, hv, Instr.extract]⟩)
end Go.Proofs.YtnmkhbelmdokmaaGreatDoor
/- The contract of the reference's Parse. -/
namespace Go.Proofs.YtnmkhbelmdokmaaGreatDoor
open Go.RowKit
/-- A URL's own block and the result's, ahead of it. -/
structure PU (rb ub : Nat) (w W : World) (u : Url.U) : Prop where
  at_ : UAt W ub u
  res : UAt W rb Url.zero
  lt : rb < ub
  bel : Below rb w W
theorem PU.step {rb ub : Nat} {w W W' : World} {u : Url.U} (h : PU rb ub w W u) (hb : Below W.heap.size W W') : PU rb ub w W' u := ⟨h.at_.below hb, h.res.below hb, h.lt, h.bel.trans (belowP hb h.res.lt)⟩
theorem PU.set {rb ub : Nat} {w W : World} {u : Url.U} (h : PU rb ub w W u) (v : Url.U) : PU rb ub w (W.setRow ub (uCells v)) v := ⟨setRow_U h.at_, (setRow_other (Nat.ne_of_lt h.lt) _).trans h.res, h.lt, below_setRow h.bel (Nat.le_of_lt h.lt) _⟩
theorem _root_.Url.unsl_le' (l : List UInt8) : (Url.unsl l).length ≤ l.length := (List.dropWhile_sublist _).length_le
theorem unsl_nil : Url.unsl [] = [] := rfl
theorem slash_first {r : List UInt8} (h : ¬ (Url.unsl r).length = r.length) : ∃ x t, r = x :: t ∧ Url.slash x = true := by
  cases r with
  | nil => exact absurd rfl h
  | cons x t =>
    cases hx : Url.slash x
    · exact absurd (by unfold Url.unsl; rw [List.dropWhile_cons_of_neg (by rw [hx]; decide)]) h
    · exact ⟨x, t, rfl, hx⟩
theorem slash_none {r : List UInt8} (h : (Url.unsl r).length = r.length) : r = [] ∨ ∃ x t, r = x :: t ∧ Url.slash x = false := by
  cases r with
  | nil => exact .inl rfl
  | cons x t =>
    cases hx : Url.slash x
    · exact .inr ⟨x, t, rfl, hx⟩
    · exfalso
      unfold Url.unsl at h
      rw [List.dropWhile_cons_of_pos hx] at h
      have := (List.dropWhile_sublist Url.slash (l := t)).length_le
      rw [List.length_cons] at h
      omega
theorem placeE_err {r : List UInt8} (h : ¬ (Url.unsl r).length = r.length) : Url.placeE r = Pl.err (Url.place r) := if_neg h
theorem whole_is {c : List UInt8} (h : Pl.err (Url.place (Url.schR c)) = 0) : Url.whole c = Url.tail (Pl.url (Url.sch c) (Url.place (Url.schR c))) (Url.placeR (Url.schR c)) := by
  rw [Pl.yes h]
  rfl
set_option maxHeartbeats 8000000 in
set_option maxRecDepth 100000 in
theorem RParse_any (l : List UInt8) (w : World) (hz : l.length ≤ 1000000) :
    Calls Tryz.prog 12 #[.string (str l)] w fun e w' => e = .returned (.tuple #[uVal (Url.parse l), .int .i64 (Url.perr l)]) ∧ Below w.heap.size w w' := by
  have hzu := (zero_of_info zeroURL).1
  have hcl := Url.clean_len l
  have hb0 : Below w.heap.size w (w.alloc (.cells (uCells Url.zero) 25)) := (Below.refl _ w).alloc (Nat.le_refl _) _
  have hU0 : UAt (w.alloc (.cells (uCells Url.zero) 25)) w.heap.size Url.zero := heap_alloc_last _ _
  unfold uVal at hzu
  have HPE : Hid (Url.perr l = if 2048 < (Url.clean l).length then 5 else if Url.schE (Url.clean l) ≠ 0 then Url.schE (Url.clean l) else if Url.placeE (Url.schR (Url.clean l)) ≠ 0 then Url.placeE (Url.schR (Url.clean l)) else if 2048 < (Url.str (Url.whole (Url.clean l))).length then 5 else 0) := rfl
  have HPY : Hid (Url.perr l = 0 → Url.parse l = Url.whole (Url.clean l)) := parse_yes
  have HPN : Hid (¬ Url.perr l = 0 → Url.parse l = Url.zero) := parse_err
  have cleanc : ∀ W : World, Calls Tryz.prog 35 #[.string (str l)] W fun e w' => e = .returned (.string (str (Url.clean l))) ∧ Below W.heap.size W w' := fun W => RClean_any l W (by omega)
  have schc : ∀ W : World, Calls Tryz.prog 36 #[.string (str (Url.clean l))] W fun e w' => e = .returned (.int .i64 (Url.schemeN (Url.clean l) : Nat)) ∧ w' = W := fun W => RScheme_any _ W (by omega)
  generalize Url.clean l = c at hcl HPE HPY cleanc schc
  generalize Url.perr l = pe at HPE HPY HPN ⊢
  generalize Url.parse l = pu at HPY HPN ⊢
  have hsz := str_size c
  by_cases hlong : 2048 < c.length
  · have HE : Hid (pe = 5) := HPE.out.trans (if_pos hlong)
    have hl2 : (2048 : Int) < (c.length : Int) := by omega
    clear hlong
    go_enter Tryz.func12, Tryz.ntmps12
    go_wp2_with (first
      | (go_at_call 35; refine (cleanc _).mono ?_; rintro e w1 ⟨rfl, hb1⟩; have hU1 := hU0.below hb1; have hb1' := bel hb0 hb1)
      | (go_at_call 36; refine (schc _).mono ?_; rintro e w2 ⟨rfl, hw2⟩; rw [hw2]; clear hw2)
      | ((with_reducible show wpList _ _ _ ({ dst := _, op := Op.store 25 _ _, type := _, pos := _, after := _, guard := _ } :: _) _ _); refine wpList_store_U _ _ rfl rfl w.heap.size Url.zero Url.zero rfl rfl hU1 ?_))
    refine ret_U2 (u := Url.zero) rfl rfl rfl rfl (setRow_U hU1) ⟨?_, below_setRow hb1' (Nat.le_refl _) _⟩
    rw [HPN.out (by rw [HE.out]; decide), HE.out]
    rfl
  · have hl2 : ¬ (2048 : Int) < (c.length : Int) := by omega
    replace HPE : Hid _ := HPE.out.trans (if_neg hlong)
    have hsn := Url.schemeN_zero c
    by_cases hsch : Url.hasB 58 (Url.rest [58] c) = true ∧ Url.isScheme (Url.sch c) = true
    · obtain ⟨q1, q2, q3, q4⟩ := Url.schemeN_pos c hsch.1 hsch.2
      have hse : Url.schE c = if Url.sch c = Url.http ∨ Url.sch c = Url.https then 0 else 16 := if_pos hsch
      have lowc : ∀ W : World, Calls Tryz.prog 37 #[.string (str (Url.upto [58] c))] W fun e w' => e = .returned (.string (str (Url.sch c))) ∧ Below W.heap.size W w' := fun W => RLower_str _ W (by omega)
      have hrl := schR_len c
      have HWH : Hid (Pl.err (Url.place (Url.schR c)) = 0 → Url.whole c = Url.tail (Pl.url (Url.sch c) (Url.place (Url.schR c))) (Url.placeR (Url.schR c))) := whole_is
      have HFIT : Hid (Url.placeE (Url.schR c) = 0 → Fits (Url.whole c)) := whole_fits c (by omega)
      rw [hse] at HPE
      clear hse hsn hsch
      generalize Url.upto [58] c = a at q1 q2 q3 q4 lowc
      generalize Url.whole c = u at HPE HPY HWH HFIT
      generalize Url.sch c = s at lowc HPE HWH
      generalize Url.schR c = r at q3 hrl HPE HWH HFIT
      generalize Url.schemeN c = N at q1 schc
      obtain ⟨k, hk⟩ : ∃ k, a.length = k := ⟨_, rfl⟩
      rw [hk] at q1 q2 q3 q4
      clear hk
      have x1 : (str c).extract 0 k = str a := by rw [str_to, q2]
      have x2 : (str c).extract N c.length = str r := by rw [str_from, q1, q3]
      have hNl : N ≤ c.length := by omega
      have hN1 : (N : Int) - 1 = (k : Int) := by omega
      have hN0 : ((N : Int) == 0) = false := by rw [beq_eq_false_iff_ne]; omega
      have hkl : k ≤ c.length := by omega
      have hsr := str_size r
      clear q1 q2 q3 q4 hlong
      unfold uCells at hzu hb0 hU0
      by_cases hS : s = Url.http ∨ s = Url.https
      · replace HPE : Hid _ := HPE.out.trans (by rw [if_pos hS, if_neg (fun h => h rfl)])
        have HS : Hid _ := hS
        obtain ⟨b1, b2, hbb, n1, n2⟩ : ∃ b1 b2 : Bool, (b1 || b2) = true ∧ ((str s).toList == [104, 116, 116, 112]) = b1 ∧ ((str s).toList == [104, 116, 116, 112, 115]) = b2 := by
          rcases hS with h | h
          · exact ⟨true, false, rfl, eq_list h, by rw [h]; exact ne_list (by decide)⟩
          · exact ⟨false, true, rfl, by rw [h]; exact ne_list (by decide), eq_list h⟩
        clear hS
        by_cases hun : (Url.unsl r).length = r.length
        · have HE : Hid (pe = 3) := HPE.out.trans (by rw [show Url.placeE r = 3 from if_pos hun, if_pos (by decide)])
          rcases slash_none hun with hr | ⟨x, t, hr, hx⟩
          · have he := empty_is hr
            clear hr hun
            cases b1
            all_goals
              cases b2
            all_goals
              first
              | cases hbb
              | skip
            all_goals
              go_enter Tryz.func12, Tryz.ntmps12
              go_wp2_with (first
                | (go_at_call 35; refine (cleanc _).mono ?_; rintro e w1 ⟨rfl, hb1⟩; have hU1 := hU0.below hb1; have hb1' := bel hb0 hb1)
                | (go_at_call 36; refine (schc _).mono ?_; rintro e w2 ⟨rfl, hw2⟩; rw [hw2]; clear hw2)
                | (go_at_call 37; refine (lowc _).mono ?_; rintro e w3 ⟨rfl, hb3⟩; have hU3 := hU1.below hb3; have hb3' := bel hb1' hb3; have hP : PU w.heap.size w3.heap.size w (w3.alloc (.cells #[.string (str s), .string (str Url.zero.host), .int .i64 Url.zero.port, .string (str Url.zero.path), .string (str Url.zero.query), .string (str Url.zero.frag), .bool Url.zero.hq, .bool Url.zero.hf] 25)) { Url.zero with sch := s } := ⟨heap_alloc_last _ _, UAt.below hU3 ((Below.refl _ _).alloc (Nat.le_refl _) _), hU3.lt, bel hb3' ((Below.refl _ _).alloc (Nat.le_refl _) _)⟩)
                | ((with_reducible show wpList _ _ _ ({ dst := _, op := Op.store 25 _ _, type := _, pos := _, after := _, guard := _ } :: _) _ _); refine wpList_store_U _ _ rfl rfl w.heap.size Url.zero Url.zero rfl rfl hP.res ?_))
              refine ret_U2 (u := Url.zero) rfl rfl rfl rfl (setRow_U hP.res) ⟨?_, below_setRow hP.bel (Nat.le_refl _) _⟩
              rw [HPN.out (by rw [HE.out]; decide), HE.out]
              rfl
          · subst hr
            have he := empty_isnt (l := x :: t) (by simp)
            have hat := str_head x t
            rw [List.length_cons] at hsr hrl
            clear hun
            cases b1
            all_goals
              cases b2
            all_goals
              first
              | cases hbb
              | skip
            all_goals
              go_enter Tryz.func12, Tryz.ntmps12
              go_wp2_with (first
                | (go_at_call 35; refine (cleanc _).mono ?_; rintro e w1 ⟨rfl, hb1⟩; have hU1 := hU0.below hb1; have hb1' := bel hb0 hb1)
                | (go_at_call 36; refine (schc _).mono ?_; rintro e w2 ⟨rfl, hw2⟩; rw [hw2]; clear hw2)
                | (go_at_call 37; refine (lowc _).mono ?_; rintro e w3 ⟨rfl, hb3⟩; have hU3 := hU1.below hb3; have hb3' := bel hb1' hb3; have hP : PU w.heap.size w3.heap.size w (w3.alloc (.cells #[.string (str s), .string (str Url.zero.host), .int .i64 Url.zero.port, .string (str Url.zero.path), .string (str Url.zero.query), .string (str Url.zero.frag), .bool Url.zero.hq, .bool Url.zero.hf] 25)) { Url.zero with sch := s } := ⟨heap_alloc_last _ _, UAt.below hU3 ((Below.refl _ _).alloc (Nat.le_refl _) _), hU3.lt, bel hb3' ((Below.refl _ _).alloc (Nat.le_refl _) _)⟩)
                | (go_at_call 38; refine (RIsSlash_any x _).mono ?_; rintro e w4 ⟨rfl, hw4⟩; rw [hw4, hx]; clear hw4)
                | ((with_reducible show wpList _ _ _ ({ dst := _, op := Op.store 25 _ _, type := _, pos := _, after := _, guard := _ } :: _) _ _); refine wpList_store_U _ _ rfl rfl w.heap.size Url.zero Url.zero rfl rfl hP.res ?_))
              refine ret_U2 (u := Url.zero) rfl rfl rfl rfl (setRow_U hP.res) ⟨?_, below_setRow hP.bel (Nat.le_refl _) _⟩
              rw [HPN.out (by rw [HE.out]; decide), HE.out]
              rfl
        · replace HPE : Hid _ := HPE.out.trans (by rw [placeE_err hun])
          replace HFIT : Hid (Pl.err (Url.place r) = 0 → Fits u) := fun h => HFIT.out ((placeE_err hun).trans h)
          obtain ⟨x, t0, hr, hx⟩ := slash_first hun
          clear hun
          have he : (str r).toList.isEmpty = false := empty_isnt (by rw [hr]; simp)
          have hat : ∀ h : 0 < (str r).size, (str r)[0]'h = x := by subst hr; exact fun _ => rfl
          have h0r : 0 < r.length := by rw [hr]; simp
          have HQ : Hid (c.length ≤ 1000000) := by show _ ≤ _; omega
          clear hr
          go_enter Tryz.func12, Tryz.ntmps12
          go_upto_region 9 with (first
            | (go_at_call 35; refine (cleanc _).mono ?_; rintro e w1 ⟨rfl, hb1⟩; have hU1 := hU0.below hb1; have hb1' := bel hb0 hb1)
            | (go_at_call 36; refine (schc _).mono ?_; rintro e w2 ⟨rfl, hw2⟩; rw [hw2]; clear hw2)
            | (go_at_call 37; refine (lowc _).mono ?_; rintro e w3 ⟨rfl, hb3⟩; have hU3 := hU1.below hb3; have hb3' := bel hb1' hb3; have hP : PU w.heap.size w3.heap.size w (w3.alloc (.cells #[.string (str s), .string (str Url.zero.host), .int .i64 Url.zero.port, .string (str Url.zero.path), .string (str Url.zero.query), .string (str Url.zero.frag), .bool Url.zero.hq, .bool Url.zero.hf] 25)) { Url.zero with sch := s } := ⟨heap_alloc_last _ _, UAt.below hU3 ((Below.refl _ _).alloc (Nat.le_refl _) _), hU3.lt, bel hb3' ((Below.refl _ _).alloc (Nat.le_refl _) _)⟩))
          generalize w3.alloc (.cells #[.string (str s), .string (str Url.zero.host), .int .i64 Url.zero.port, .string (str Url.zero.path), .string (str Url.zero.query), .string (str Url.zero.frag), .bool Url.zero.hq, .bool Url.zero.hf] 25) = w5 at hP ⊢
          clear hU3 hb3' hb3 hU1 hb1' hb1 hU0 hb0
          generalize w3.heap.size = ub at hP ⊢
          obtain ⟨c0, -, -, -, -, -, -, -⟩ := hP.at_.cells
          simp only at c0
          go_cut [29] from 30 (fun t w' => t = Value.bool false ∧ w' = w5)
          case first =>
            cases b1
            all_goals
              cases b2
            all_goals
              first
              | cases hbb
              | skip
            all_goals
              go_wp2
              go_meet
              case rel => exact ⟨rfl, rfl⟩
          case rest =>
            obtain ⟨rfl, rfl⟩ := hcut
            clear c0 n1 n2 hbb
            go_upto_block 2 with (go_at_call 38; refine (RIsSlash_any x _).mono ?_; rintro e w4 ⟨rfl, hw4⟩; rw [hw4, hx]; clear hw4)
            clear he hat hx
            go_cut [0] from 49 to 57 (fun s0 w' => s0 = Value.string (str (Url.unsl r)) ∧ w' = wc)
            case first =>
              go_wp2_with fail
              go_loopw [0] (fun s wr => ∃ t : List UInt8, s = .string (str t) ∧ t.length ≤ r.length ∧ Hid (Url.unsl r = Url.unsl t) ∧ wr = wc) (fun s _ => match s with | .string x => x.size | _ => 0)
              case atStart => exact ⟨r, rfl, Nat.le_refl _, rfl, rfl⟩
              case round =>
                obtain ⟨t, rfl, htl, HUN, rfl⟩ := hrel
                cases t with
                | nil =>
                  have he := empty_is (l := []) rfl
                  go_wp2
                  go_meet
                  case rel => exact ⟨by rw [HUN.out]; rfl, rfl⟩
                | cons x t1 =>
                  cases hx : Url.slash x
                  · have HUN2 : Hid (Url.unsl r = x :: t1) := by
                      show _ = _
                      rw [HUN.out]
                      unfold Url.unsl
                      rw [List.dropWhile_cons_of_neg (by rw [hx]; decide)]
                    have he := empty_isnt (l := x :: t1) (by simp)
                    have hat := str_head x t1
                    have hs1 : (str (x :: t1)).size = t1.length + 1 := str_size _
                    clear HUN
                    go_wp2_with (go_at_call 38; refine (RIsSlash_any x _).mono ?_; rintro e w4 ⟨rfl, hw4⟩; rw [hw4, hx]; clear hw4)
                    go_meet
                    case rel => exact ⟨by rw [HUN2.out], rfl⟩
                  · have HN : Hid (Url.unsl r = Url.unsl t1) := by
                      show _ = _
                      rw [HUN.out]
                      unfold Url.unsl
                      rw [List.dropWhile_cons_of_pos hx]
                    have he := empty_isnt (l := x :: t1) (by simp)
                    have hat := str_head x t1
                    have hs1 : (str (x :: t1)).size = t1.length + 1 := str_size _
                    have hs2 := str_size t1
                    have hext1 : (str (x :: t1)).extract 1 (t1.length + 1) = str t1 := str_from (x :: t1) 1
                    have hs3 : (1 : Int) ≤ ((t1.length + 1 : Nat) : Int) := by omega
                    rw [List.length_cons] at htl
                    clear HUN
                    go_wp2_with (go_at_call 38; refine (RIsSlash_any x _).mono ?_; rintro e w4 ⟨rfl, hw4⟩; rw [hw4, hx]; clear hw4)
                    go_roundw
                    case rel => exact ⟨t1, rfl, by omega, HN, by trivial⟩
                    case measure => simp only [hs1, hs2]; omega
            case rest =>
              obtain ⟨rfl, rfl⟩ := hcut
              have htl := Url.unsl_le' r
              unfold Url.place Url.placeR at HWH
              unfold Url.place at HPE HFIT
              generalize Url.unsl r = t at htl HWH HPE HFIT ⊢
              have hut := upto_take [47, 92, 63, 35] t
              have hul := Url.upto_len [47, 92, 63, 35] t
              have hrl2 := Url.rest_len [47, 92, 63, 35] t
              have uc : ∀ W : World, Calls Tryz.prog 39 #[.string (str t), .string ⟨#[47, 92, 63, 35]⟩] W fun r w' => r = .returned (.int .i64 ((Url.upto [47, 92, 63, 35] t).length : Nat)) ∧ w' = W := fun W => Runtil_any t [47, 92, 63, 35] W (by omega) (by decide)
              generalize Url.upto [47, 92, 63, 35] t = q at hut hul uc HWH HPE HFIT
              generalize Url.rest [47, 92, 63, 35] t = z at hut hrl2 HWH
              obtain ⟨kk, hkk⟩ : ∃ kk, q.length = kk := ⟨_, rfl⟩
              have hql : q.length ≤ t.length := hul
              rw [hkk] at hut uc hul
              clear hkk
              have HQ1 : Hid (List.take kk t = q) := hut.1
              have HZ1 : Hid (List.drop kk t = z) := hut.2
              clear hut
              have plc : ∀ W : World, Calls Tryz.prog 40 #[uVal { Url.zero with sch := s }, .string (str q)] W fun e w' => e = .returned (.tuple #[uVal (Pl.url s q), .int .i64 (Pl.err q)]) ∧ Below W.heap.size W w' := fun W => RPlace_any s q W HS.out (by have := HQ.out; omega)
              go_upto_region 16 with (go_at_call 39; refine (uc _).mono ?_; rintro e w6 ⟨rfl, hw6⟩; rw [hw6]; clear hw6)
              by_cases hpe : Pl.err q = 0
              · have HU := HWH.out hpe
                have hfit := HFIT.out hpe
                rw [hpe] at plc HPE
                replace HPE : Hid _ := HPE.out.trans (if_neg (fun h => h rfl))
                clear HWH HFIT hpe
                generalize Pl.url s q = v at plc HU
                have tlc : ∀ W : World, Calls Tryz.prog 41 #[uVal v, .string (str z)] W fun e w' => e = .returned (uVal u) ∧ Below W.heap.size W w' := fun W => by
                  rw [HU]
                  exact RTail_any v z W (by omega)
                have stc : ∀ W : World, Calls Tryz.prog 13 #[uVal u] W fun e w' => e = .returned (.string (str (Url.str u))) ∧ Below W.heap.size W w' := fun W => RString_any u W hfit
                clear HU hfit
                have hsu := str_size (Url.str u)
                generalize Url.str u = ss at stc hsu HPE
                refine wp_region_any (by kernel_rfl) ?_
                change wpAny _ _ _ _ _ _ _ (World.drew _)
                have hPd := hP.step ((Below.refl _ _).drew)
                refine wpAny_take (i := 1) rfl (by kernel_rfl) (by kernel_rfl) (by kernel_rfl) (fun _ _ _ h => h) (y_move (v := .string (str t)) _ rfl rfl rfl) ?_
                refine wpAny_take (i := 2) rfl (by kernel_rfl) (by kernel_rfl) (by kernel_rfl) (fun _ _ _ h => h) (y_move (v := .int .i64 (kk : Int)) _ rfl rfl rfl) ?_
                refine wpAny_take (i := 3) rfl (by kernel_rfl) (by kernel_rfl) (by kernel_rfl) (fun _ _ _ h => h) (y_slice_to (l := t) (r := q) (k := (kk : Int)) _ _ rfl rfl rfl rfl (by omega) (by omega) HQ1.out) ?_
                refine any_load_U 0 (by kernel_rfl) rfl (Operand.tmp 5) rfl rfl ub { Url.zero with sch := s } (by go_simp) hPd.at_ ?_
                refine wpAny_ready (rs := [4]) (by kernel_rfl) (by simp) ?_
                refine AllReady.cons rfl (fun K hK => ?_) AllReady.nil
                go_simp
                refine (plc _).mono ?_
                rintro e w7 ⟨rfl, hb7⟩
                refine hK _ _ ?_
                clear hK K
                have hP7 := hPd.step hb7
                clear hP hPd hb7
                refine wpAny_take (i := 5) rfl (by kernel_rfl) (by kernel_rfl) (by kernel_rfl) (fun _ _ _ h => h) (y_move (v := .tuple #[uVal v, .int .i64 0]) _ rfl rfl rfl) ?_
                refine wpAny_take (i := 6) rfl (by kernel_rfl) (by kernel_rfl) (by kernel_rfl) (fun _ _ _ h => h) (y_extract (vs := #[uVal v, .int .i64 0]) (v := uVal v) _ _ rfl rfl rfl rfl) ?_
                refine wpAny_take (i := 7) rfl (by kernel_rfl) (by kernel_rfl) (by kernel_rfl) (fun _ _ _ h => h) (y_extract (vs := #[uVal v, .int .i64 0]) (v := .int .i64 0) _ _ rfl rfl rfl rfl) ?_
                refine any_store_U 8 (by kernel_rfl) rfl (Operand.tmp 5) (Operand.tmp 66) rfl rfl ub v { Url.zero with sch := s } (by go_simp) (by go_simp) hP7.at_ ?_
                have hP8 := hP7.set v
                generalize World.setRow w7 ub (uCells v) = w8 at hP8 ⊢
                clear hP7
                refine wpAny_take (i := 9) rfl (by kernel_rfl) (by kernel_rfl) (by kernel_rfl) (fun _ _ _ h => h) (y_assign (v := .int .i64 0) _ rfl rfl rfl) ?_
                refine wpAny_done (by kernel_rfl) ?_ _
                go_upto_region 19 with fail
                refine wp_region_any (by kernel_rfl) ?_
                change wpAny _ _ _ _ _ _ _ (World.drew _)
                have hPd := hP8.step ((Below.refl _ _).drew)
                refine wpAny_take (i := 1) rfl (by kernel_rfl) (by kernel_rfl) (by kernel_rfl) (fun _ _ _ h => h) (y_move (v := .string (str t)) _ rfl rfl rfl) ?_
                refine wpAny_take (i := 2) rfl (by kernel_rfl) (by kernel_rfl) (by kernel_rfl) (fun _ _ _ h => h) (y_move (v := .int .i64 (kk : Int)) _ rfl rfl rfl) ?_
                refine wpAny_take (i := 3) rfl (by kernel_rfl) (by kernel_rfl) (by kernel_rfl) (fun _ _ _ h => h) (y_slice_from (l := t) (r := z) (k := (kk : Int)) _ _ rfl rfl rfl rfl (by omega) (by omega) HZ1.out) ?_
                refine any_load_U 0 (by kernel_rfl) rfl (Operand.tmp 5) rfl rfl ub v (by go_simp) hPd.at_ ?_
                refine wpAny_ready (rs := [4]) (by kernel_rfl) (by simp) ?_
                refine AllReady.cons rfl (fun K hK => ?_) AllReady.nil
                go_simp
                refine (tlc _).mono ?_
                rintro e w9 ⟨rfl, hb9⟩
                refine hK _ _ ?_
                clear hK K
                have hP9 := hPd.step hb9
                clear hP8 hPd hb9
                refine any_store_U 5 (by kernel_rfl) rfl (Operand.tmp 5) (Operand.tmp 76) rfl rfl ub u v (by go_simp) (by go_simp) hP9.at_ ?_
                have hP10 := hP9.set u
                generalize World.setRow w9 ub (uCells u) = w10 at hP10 ⊢
                clear hP9
                refine wpAny_done (by kernel_rfl) ?_ _
                by_cases hbig : 2048 < ss.length
                · have HE : Hid (pe = 5) := HPE.out.trans (if_pos hbig)
                  have hb2 : (2048 : Int) < (ss.length : Int) := by omega
                  clear hbig
                  go_wp2_with (first
                    | ((with_reducible show wpList _ _ _ ({ dst := _, op := Op.load 25 _, type := _, pos := _, after := _, guard := _ } :: _) _ _); refine wpList_load_U _ rfl rfl ub u rfl hP10.at_ ?_)
                    | (go_at_call 13; refine (stc _).mono ?_; rintro e w11 ⟨rfl, hb11⟩; have hP11 := hP10.step hb11; clear hP10 hb11)
                    | ((with_reducible show wpList _ _ _ ({ dst := _, op := Op.load 25 _, type := _, pos := _, after := _, guard := _ } :: _) _ _); refine wpList_load_U _ rfl rfl ub u rfl hP11.at_ ?_)
                    | ((with_reducible show wpList _ _ _ ({ dst := _, op := Op.store 25 (Operand.tmp 2) _, type := _, pos := _, after := _, guard := _ } :: _) _ _); refine wpList_store_U _ _ rfl rfl w.heap.size Url.zero Url.zero rfl rfl hP11.res ?_))
                  refine ret_U2 (u := Url.zero) rfl rfl rfl rfl (setRow_U hP11.res) ⟨?_, below_setRow hP11.bel (Nat.le_refl _) _⟩
                  rw [HPN.out (by rw [HE.out]; decide), HE.out]
                  rfl
                · have HE : Hid (pe = 0) := HPE.out.trans (if_neg hbig)
                  have hb2 : ¬ (2048 : Int) < (ss.length : Int) := by omega
                  clear hbig
                  go_wp2_with (first
                    | ((with_reducible show wpList _ _ _ ({ dst := _, op := Op.load 25 _, type := _, pos := _, after := _, guard := _ } :: _) _ _); refine wpList_load_U _ rfl rfl ub u rfl hP10.at_ ?_)
                    | (go_at_call 13; refine (stc _).mono ?_; rintro e w11 ⟨rfl, hb11⟩; have hP11 := hP10.step hb11; clear hP10 hb11)
                    | ((with_reducible show wpList _ _ _ ({ dst := _, op := Op.load 25 _, type := _, pos := _, after := _, guard := _ } :: _) _ _); refine wpList_load_U _ rfl rfl ub u rfl hP11.at_ ?_)
                    | ((with_reducible show wpList _ _ _ ({ dst := _, op := Op.store 25 (Operand.tmp 2) _, type := _, pos := _, after := _, guard := _ } :: _) _ _); refine wpList_store_U _ _ rfl rfl w.heap.size u Url.zero rfl rfl hP11.res ?_))
                  refine ret_U2 (u := u) rfl rfl rfl rfl (setRow_U hP11.res) ⟨?_, below_setRow hP11.bel (Nat.le_refl _) _⟩
                  rw [HPY.out HE.out, HE.out]
                  rfl
              · have HE : Hid (pe = Pl.err q) := HPE.out.trans (if_pos hpe)
                have HN : Hid (¬ Pl.err q = 0) := hpe
                have hpb : (Pl.err q != 0) = true := by rw [bne_iff_ne]; exact hpe
                clear HPE HWH HFIT hpe
                generalize Pl.err q = er at HE HN hpb plc
                generalize Pl.url s q = v at plc
                refine wp_region_any (by kernel_rfl) ?_
                change wpAny _ _ _ _ _ _ _ (World.drew _)
                have hPd := hP.step ((Below.refl _ _).drew)
                refine wpAny_take (i := 1) rfl (by kernel_rfl) (by kernel_rfl) (by kernel_rfl) (fun _ _ _ h => h) (y_move (v := .string (str t)) _ rfl rfl rfl) ?_
                refine wpAny_take (i := 2) rfl (by kernel_rfl) (by kernel_rfl) (by kernel_rfl) (fun _ _ _ h => h) (y_move (v := .int .i64 (kk : Int)) _ rfl rfl rfl) ?_
                refine wpAny_take (i := 3) rfl (by kernel_rfl) (by kernel_rfl) (by kernel_rfl) (fun _ _ _ h => h) (y_slice_to (l := t) (r := q) (k := (kk : Int)) _ _ rfl rfl rfl rfl (by omega) (by omega) HQ1.out) ?_
                refine any_load_U 0 (by kernel_rfl) rfl (Operand.tmp 5) rfl rfl ub { Url.zero with sch := s } (by go_simp) hPd.at_ ?_
                refine wpAny_ready (rs := [4]) (by kernel_rfl) (by simp) ?_
                refine AllReady.cons rfl (fun K hK => ?_) AllReady.nil
                go_simp
                refine (plc _).mono ?_
                rintro e w7 ⟨rfl, hb7⟩
                refine hK _ _ ?_
                clear hK K
                have hP7 := hPd.step hb7
                clear hP hPd hb7
                refine wpAny_take (i := 5) rfl (by kernel_rfl) (by kernel_rfl) (by kernel_rfl) (fun _ _ _ h => h) (y_move (v := .tuple #[uVal v, .int .i64 er]) _ rfl rfl rfl) ?_
                refine wpAny_take (i := 6) rfl (by kernel_rfl) (by kernel_rfl) (by kernel_rfl) (fun _ _ _ h => h) (y_extract (vs := #[uVal v, .int .i64 er]) (v := uVal v) _ _ rfl rfl rfl rfl) ?_
                refine wpAny_take (i := 7) rfl (by kernel_rfl) (by kernel_rfl) (by kernel_rfl) (fun _ _ _ h => h) (y_extract (vs := #[uVal v, .int .i64 er]) (v := .int .i64 er) _ _ rfl rfl rfl rfl) ?_
                refine any_store_U 8 (by kernel_rfl) rfl (Operand.tmp 5) (Operand.tmp 66) rfl rfl ub v { Url.zero with sch := s } (by go_simp) (by go_simp) hP7.at_ ?_
                have hP8 := hP7.set v
                generalize World.setRow w7 ub (uCells v) = w8 at hP8 ⊢
                clear hP7
                refine wpAny_take (i := 9) rfl (by kernel_rfl) (by kernel_rfl) (by kernel_rfl) (fun _ _ _ h => h) (y_assign (v := .int .i64 er) _ rfl rfl rfl) ?_
                refine wpAny_done (by kernel_rfl) ?_ _
                go_wp2_with (first
                  | ((with_reducible show wpList _ _ _ ({ dst := _, op := Op.store 25 (Operand.tmp 2) _, type := _, pos := _, after := _, guard := _ } :: _) _ _); refine wpList_store_U _ _ rfl rfl w.heap.size Url.zero Url.zero rfl rfl hP8.res ?_))
                refine ret_U2 (u := Url.zero) rfl rfl rfl rfl (setRow_U hP8.res) ⟨?_, below_setRow hP8.bel (Nat.le_refl _) _⟩
                rw [HPN.out (by rw [HE.out]; exact HN.out), HE.out]
                rfl
      · replace HPE : Hid _ := HPE.out.trans (by rw [if_neg hS, if_pos (by decide)])
        have HE : Hid (pe = 16) := HPE.out
        have n1 : ((str s).toList == [104, 116, 116, 112]) = false := ne_list (fun h => hS (.inl h))
        have n2 : ((str s).toList == [104, 116, 116, 112, 115]) = false := ne_list (fun h => hS (.inr h))
        clear hS
        go_enter Tryz.func12, Tryz.ntmps12
        go_wp2_with (first
          | (go_at_call 35; refine (cleanc _).mono ?_; rintro e w1 ⟨rfl, hb1⟩; have hU1 := hU0.below hb1; have hb1' := bel hb0 hb1)
          | (go_at_call 36; refine (schc _).mono ?_; rintro e w2 ⟨rfl, hw2⟩; rw [hw2]; clear hw2)
          | (go_at_call 37; refine (lowc _).mono ?_; rintro e w3 ⟨rfl, hb3⟩; have hU3 := hU1.below hb3; have hb3' := bel hb1' hb3; have hP : PU w.heap.size w3.heap.size w (w3.alloc (.cells #[.string (str s), .string (str Url.zero.host), .int .i64 Url.zero.port, .string (str Url.zero.path), .string (str Url.zero.query), .string (str Url.zero.frag), .bool Url.zero.hq, .bool Url.zero.hf] 25)) { Url.zero with sch := s } := ⟨heap_alloc_last _ _, UAt.below hU3 ((Below.refl _ _).alloc (Nat.le_refl _) _), hU3.lt, bel hb3' ((Below.refl _ _).alloc (Nat.le_refl _) _)⟩)
          | ((with_reducible show wpList _ _ _ ({ dst := _, op := Op.store 25 _ _, type := _, pos := _, after := _, guard := _ } :: _) _ _); refine wpList_store_U _ _ rfl rfl w.heap.size Url.zero Url.zero rfl rfl hP.res ?_))
        refine ret_U2 (u := Url.zero) rfl rfl rfl rfl (setRow_U hP.res) ⟨?_, below_setRow hP.bel (Nat.le_refl _) _⟩
        rw [HPN.out (by rw [HE.out]; decide), HE.out]
        rfl
    · have hn0 := hsn.2 hsch
      have hse : Url.schE c = 3 := if_neg hsch
      have HE : Hid (pe = 3) := HPE.out.trans (by rw [hse, if_pos (by decide)])
      rw [hn0] at schc
      clear hsch hse hsn hlong
      go_enter Tryz.func12, Tryz.ntmps12
      go_wp2_with (first
        | (go_at_call 35; refine (cleanc _).mono ?_; rintro e w1 ⟨rfl, hb1⟩; have hU1 := hU0.below hb1; have hb1' := bel hb0 hb1)
        | (go_at_call 36; refine (schc _).mono ?_; rintro e w2 ⟨rfl, hw2⟩; rw [hw2]; clear hw2)
        | ((with_reducible show wpList _ _ _ ({ dst := _, op := Op.store 25 _ _, type := _, pos := _, after := _, guard := _ } :: _) _ _); refine wpList_store_U _ _ rfl rfl w.heap.size Url.zero Url.zero rfl rfl hU1 ?_))
      refine ret_U2 (u := Url.zero) rfl rfl rfl rfl (setRow_U hU1) ⟨?_, below_setRow hb1' (Nat.le_refl _) _⟩
      rw [HPN.out (by rw [HE.out]; decide), HE.out]
      rfl
end Go.Proofs.YtnmkhbelmdokmaaGreatDoor
