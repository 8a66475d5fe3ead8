/- The walk of JsonMakes. -/
import Derived.Test.YtmmpbjpeiclacaaGreatDoorKMabc
import Derived.Test.YtmmpbjpeiclacaaGreatDoorKMd
import Derived.Test.YtmmpbjpeiclacaaGreatDoorKZvw
import Derived.Test.YtmmpbjpeiclacaaGreatDoorKZhi
import Derived.Test.YtmmpbjpeiclacaaGreatDoorKZJ
set_option linter.unusedVariables false
set_option linter.unusedSimpArgs false
namespace Jsn
theorem kids_size : ∀ (cs : List J), (∀ c ∈ cs, sizeJ c ≤ 3000) → sizeL cs ≤ 3000 * cs.length
  | [], _ => by rw [sizeL_nil]; omega
  | c :: cs, h => by
    rw [sizeL_cons]
    have h1 := h c (by simp)
    have h2 := kids_size cs (fun d hd => h d (by simp [hd]))
    simp
    omega
theorem tab_bound (ps : List (List UInt8 × J)) : ∀ st, (∀ p ∈ ps, p.1.length ≤ 300 ∧ sizeJ p.2 ≤ 3000) → (∀ k ∈ st.1, k.length ≤ 900) → (∀ c ∈ st.2, sizeJ c ≤ 3000) → (∀ k ∈ (ps.foldl tabS st).1, k.length ≤ 900) ∧ (∀ c ∈ (ps.foldl tabS st).2, sizeJ c ≤ 3000) := by
  induction ps with
  | nil => intro st _ h1 h2; exact ⟨h1, h2⟩
  | cons p ps ih =>
    intro st h h1 h2
    rw [List.foldl_cons]
    have hp := h p (by simp)
    have hr := Utf.rep_len p.1
    refine ih _ (fun q hq => h q (by simp [hq])) ?_ ?_
    · unfold tabS
      split
      · exact h1
      · intro k hk
        rcases List.mem_append.1 hk with hk | hk
        · exact h1 k hk
        · simp at hk
          subst hk
          omega
    · unfold tabS
      split
      · exact h2
      · intro k hk
        rcases List.mem_append.1 hk with hk | hk
        · exact h2 k hk
        · simp at hk
          subst hk
          exact hp.2
theorem lenK_le : ∀ (ks : List (List UInt8)), (∀ k ∈ ks, k.length ≤ 900) → lenK ks ≤ 900 * ks.length
  | [], _ => by simp [lenK]
  | k :: ks, h => by
    have h1 := h k (by simp)
    have h2 := lenK_le ks (fun d hd => h d (by simp [hd]))
    unfold lenK at *
    simp
    omega
theorem tab_size (ps : List (List UInt8 × J)) (hl : ps.length ≤ 40) (h : ∀ p ∈ ps, p.1.length ≤ 300 ∧ sizeJ p.2 ≤ 3000) : sizeJ (tabJ ps) ≤ 1000000000 := by
  have h1 := tab_bound ps ([], []) h (by simp) (by simp)
  have h2 := tab_len ps ([], [])
  have h3 := lenK_le _ h1.1
  have h4 := kids_size _ h1.2
  have h5 := h2.2 rfl
  have h6 := h2.1
  unfold tabJ
  rw [sizeJ_mk]
  simp at h6 ⊢
  omega
end Jsn
namespace Go.Proofs.YtmmpbjpeiclacaaGreatDoor.jsonMakes
open Go.RowKit
theorem field_text (x0 x2 x3 : Value) (b : ByteArray) (w : World) : Sem.run Tryz.prog (Instr.field 27 (.agg #[x0, .string b, x2, x3]) 1) w = .ok (.string b) w := by
  kernel_rfl
theorem hy_load_V {ops : Array Oper} {S : World → Prop} {o : Oper} {a : Act} (x : Operand) (ho : o.op = .load 27 x) (hw : Region.wanted o (yielded ops a.tmps) = true) (b : Nat) (x0 x1 x2 x3 : Value) (hx : a.eval x = .pointer (some ⟨b, 0, none⟩)) (h : ∀ W, S W → VAt W b x0 x1 x2 x3) : YieldsIf Tryz.prog ops S o (vv x0 x1 x2 x3) a :=
  (.inl ⟨hw, fun w hs => by
    unfold execOp
    rw [ho]
    simp only [hx, Sem.run_bind, loadAt_V (h w hs), Result.andThen, Sem.run_pure]⟩)
set_option maxHeartbeats 8000000 in
set_option maxRecDepth 100000 in
theorem walkL (s : List UInt8) (n : Int) (ps : List (List UInt8 × Jsn.J)) (v : Value) (w : World) (hs0 : s.length ≤ maxLen) (hn0 : -9223372036854775808 ≤ n) (hn1 : n ≤ 9223372036854775807) (hp : ArgP w v ps) (hE : Pow w) :
    Calls Tryz.prog 3 #[.string (str s), .int .i64 n, v] w fun e w' => e = .returned (.bool true) ∧ Below w.heap.size w w' := by
  obtain ⟨hR, hlen, hfit⟩ := hp
  obtain ⟨a, c, rfl⟩ := hR.form
  obtain ⟨i0, hi, hz0, hz1, hz2⟩ := info_parts infoVal
  have hss := str_size s
  have H := hideP hR
  have HFIT := hideP hfit
  have HE := hideP hE
  clear hR hfit hE
  go_enter Tryz.func3, Tryz.ntmps3
  by_cases h3 : 3000 < s.length
  · go_wp2_with (go_at_call 4; refine (alive7_any _).mono ?_; rintro e w9 ⟨rfl, hB9⟩)
    go_ret
    exact ⟨rfl, hB9⟩
  by_cases h4 : 40 < ps.length
  · go_wp2_with (go_at_call 4; refine (alive7_any _).mono ?_; rintro e w9 ⟨rfl, hB9⟩)
    go_ret
    exact ⟨rfl, hB9⟩
  go_upto_region 4 with fail
  go_wp2
  go_loopw [7, 23] (fun kv i wr => ∃ (j : Nat) (qs : List V4), i = .int .i64 j ∧ j ≤ ps.length ∧ wr.ownsRow w.heap.size 27 4 kv j (cells4 qs) ∧ Hid ((qs.length = ((ps.take j).map (·.2)).length ∧ ∀ (n : Nat) (q : V4) (c : Jsn.J), qs[n]? = some q → ((ps.take j).map (·.2))[n]? = some c → RV (fun _ => True) w c (vv q.1 q.2.1 q.2.2.1 q.2.2.2)) ∧ ∀ p ∈ ps.take j, p.1.length ≤ 300 ∧ Jsn.sizeJ p.2 ≤ 3000) ∧ Below w.heap.size w wr) (fun _ i _ => ps.length - (intOf i).toNat)
  case atStart => exact ⟨0, [], rfl, Nat.zero_le _, World.ownsRow_nil _ _ _ _, ⟨⟨rfl, fun n q c hq => by simp at hq⟩, fun p hp => by simp at hp⟩, Below.refl _ _⟩
  case round =>
    obtain ⟨j, qs, rfl, hj, hO, HQ, hB⟩ := hrel
    have hsz := hB.size
    by_cases hlt : j < ps.length
    · obtain ⟨hnn, hc, b, o, rfl, hbl, x0, x1, x2, x3, e0, e1, e2, e3, e4, hrv⟩ := H.out.at (List.getElem?_eq_getElem hlt)
      clear hnn
      obtain ⟨da, dn, dc, db, dm, dd, hsh⟩ := hrv.shape
      obtain ⟨hp3, hpf⟩ := HFIT.out _ (List.getElem_mem hlt)
      have kb := hB.block b hbl
      replace e0 := (cell_keep kb).trans e0
      replace e1 := (cell_keep kb).trans e1
      replace e2 := (cell_keep kb).trans e2
      replace e3 := (cell_keep kb).trans e3
      replace e4 := (cell_keep kb).trans e4
      have HT : Hid (ps.take (j + 1) = ps.take j ++ [ps[j]]) := List.take_succ_eq_append_getElem hlt
      clear kb
      generalize ps[j] = p at *
      cases hsh
      have CF := hideP (fun W hB => far_any p.2 _ W (hrv.below hB) hpf)
      have HRV := hideP hrv
      have hpz := str_size p.1
      clear hrv hpf
      obtain ⟨ka, kc, rfl⟩ := own_form hO
      go_upto_region 7 with fail
      have hB1 := hB.alloc hsz (.cells #[.string (str p.1), .int .i64 p.2.kind, .string (str p.2.text), .slice da dn dc, .slice db dm dd] 29)
      have hP1 : (wr.alloc (.cells #[.string (str p.1), .int .i64 p.2.kind, .string (str p.2.text), .slice da dn dc, .slice db dm dd] 29)).heap[wr.heap.size]? = some (.cells #[.string (str p.1), .int .i64 p.2.kind, .string (str p.2.text), .slice da dn dc, .slice db dm dd] 29) := heap_alloc_last wr _
      have hs1 : wr.heap.size < (wr.alloc (.cells #[.string (str p.1), .int .i64 p.2.kind, .string (str p.2.text), .slice da dn dc, .slice db dm dd] 29)).heap.size := by simp
      have hO1 : (wr.alloc (.cells #[.string (str p.1), .int .i64 p.2.kind, .string (str p.2.text), .slice da dn dc, .slice db dm dd] 29)).ownsRow w.heap.size 27 4 (.slice ka j kc) j (cells4 qs) := World.ownsRow.alloc hO _
      clear hB hO e0 e1 e2 e3 e4
      generalize wr.alloc (.cells #[.string (str p.1), .int .i64 p.2.kind, .string (str p.2.text), .slice da dn dc, .slice db dm dd] 29) = w1 at *
      have g1 : w1.cell? ⟨wr.heap.size, 1, none⟩ = some (.int .i64 p.2.kind) := by rw [Lib.cell_of_heap hP1]; rfl
      have g2 : w1.cell? ⟨wr.heap.size, 2, none⟩ = some (.string (str p.2.text)) := by rw [Lib.cell_of_heap hP1]; rfl
      have g3 : w1.cell? ⟨wr.heap.size, 3, none⟩ = some (.slice da dn dc) := by rw [Lib.cell_of_heap hP1]; rfl
      have g4 : w1.cell? ⟨wr.heap.size, 4, none⟩ = some (.slice db dm dd) := by rw [Lib.cell_of_heap hP1]; rfl
      go_wp2_with (go_at_call 5; fail)
      refine (CF.out _ hB1).mono ?_
      rintro e w3 ⟨hB3, far, rfl, hfar⟩
      have hP3 := (hB3.block _ hs1).trans hP1
      have hO3 := row_below hO1 hB3
      have hB3' := bel hB1 hB3
      have hs3 := hB3.size
      clear g1 g2 g3 g4 hO1 hB1 hB3 hP1 CF
      have g0 : w3.cell? ⟨wr.heap.size, 0, none⟩ = some (.string (str p.1)) := by rw [Lib.cell_of_heap hP3]; rfl
      have g1 : w3.cell? ⟨wr.heap.size, 1, none⟩ = some (.int .i64 p.2.kind) := by rw [Lib.cell_of_heap hP3]; rfl
      have g2 : w3.cell? ⟨wr.heap.size, 2, none⟩ = some (.string (str p.2.text)) := by rw [Lib.cell_of_heap hP3]; rfl
      have g3 : w3.cell? ⟨wr.heap.size, 3, none⟩ = some (.slice da dn dc) := by rw [Lib.cell_of_heap hP3]; rfl
      have g4 : w3.cell? ⟨wr.heap.size, 4, none⟩ = some (.slice db dm dd) := by rw [Lib.cell_of_heap hP3]; rfl
      clear hP3
      dsimp only
      cases far with
      | true =>
        clear hfar
        go_wp2_with (go_at_call 4; refine (alive7_any _).mono ?_; rintro e w9 ⟨rfl, hB9⟩)
        go_ret
        exact ⟨rfl, bel hB3' hB9⟩
      | false =>
        have hpsz := hfar rfl
        clear hfar
        by_cases hk3 : 300 < p.1.length
        · go_wp2_with (go_at_call 4; refine (alive7_any _).mono ?_; rintro e w9 ⟨rfl, hB9⟩)
          go_ret
          exact ⟨rfl, bel hB3' hB9⟩
        · have hz3 := hB3'.size
          go_wp2_with (at_builtin; refine wpList_append_own _ rfl _ _ 24 rfl w.heap.size 27 i0 (vv (.int .i64 0) (.string ⟨#[]⟩) (.slice none 0 0) (.slice none 0 0)) 4 72 Tryz.underlying24 hi hz0 hz1 hz2 rfl (by decide) _ _ _ rfl (World.ownsRow.alloc hO3 _) ⟨w3.heap.size, 0, none⟩ 1 1 [.int .i64 p.2.kind, .string (str p.2.text), .slice da dn dc, .slice db dm dd] rfl rfl (newcells w3 _ _) (fun x hx => by simp at hx; rcases hx with rfl | rfl | rfl | rfl <;> rfl) (by unfold maxLen; omega) (by omega) (by simp; omega) ?_; intro v' w4 hown' hgrow hnil)
          refine ⟨⟨j + 1, qs ++ [(.int .i64 p.2.kind, .string (str p.2.text), .slice da dn dc, .slice db dm dd)], by go_num, by omega, by simpa [cells4, c4] using hown', ?_, (hB3'.alloc hz3 _).grown hgrow (by simp; omega) (fun q hq => (World.ownsRow.lt hO3 q hq).1)⟩, by simp [intOf]; omega⟩
          show _ ∧ _
          rw [HT.out, List.map_append]
          refine ⟨hq_app HQ.out.1 HRV.out, fun q hq => ?_⟩
          rcases List.mem_append.1 hq with hq | hq
          · exact HQ.out.2 q hq
          · simp at hq
            subst hq
            exact ⟨by omega, hpsz⟩
    · have hje : j = ps.length := by omega
      subst hje
      rw [List.take_length] at HQ
      obtain ⟨ka, kc, rfl⟩ := own_form hO
      obtain ⟨⟨hq1, hq2⟩, hall⟩ := HQ.out
      clear HQ
      have hcl : (ps.map (·.2)).length = ps.length := by simp
      have hRK : RKs (fun _ => True) wr (ps.map (·.2)) (.slice ka ps.length kc) := RKs_own (by rw [hcl]; exact hO) hq1 hB hq2
      have hkz := Jsn.kids_size (ps.map (·.2)) (fun c hc => by obtain ⟨q, hq, rfl⟩ := List.mem_map.1 hc; exact (hall q hq).2)
      rw [hcl] at hkz
      have htz := Jsn.tab_size ps (by omega) hall
      have hrl := Utf.rep_len s
      clear hO hq1 hq2
      generalize ps.map (·.2) = cs at *
      have HPS := hideP (fun W (hW : Below wr.heap.size wr W) => H.out.below (bel hB hW))
      have CQ := hideP (fun W => Quote_any s W (by omega))
      have CRQ := hideP (fun W => RQuote_any s W (by omega) (by omega))
      have CO := hideP (fun W => Of_any s W (by omega))
      have CRR := hideP (fun W => RRepair_any s W (by omega))
      have CS1 : Hid (∀ W, Calls Tryz.prog 8 #[vv (.int .i64 4) (.string (str (Utf.rep s))) (.slice none 0 0) (.slice none 0 0), vv (.int .i64 4) (.string (str (Utf.rep s))) (.slice none 0 0) (.slice none 0 0)] W fun e w' => e = .returned (.bool true) ∧ Below W.heap.size W w') := fun W => by
        have h1 : ∀ W, RV (fun _ => True) W (.mk 4 (Utf.rep s) [] []) (vv (.int .i64 4) (.string (str (Utf.rep s))) (.slice none 0 0) (.slice none 0 0)) := fun W => RV_mk.2 ⟨_, _, rfl, .inl ⟨_, _, rfl, rfl⟩, .inl ⟨_, _, rfl, rfl⟩⟩
        have h2 : Jsn.sizeJ (.mk 4 (Utf.rep s) [] []) ≤ 1000000000 := by rw [Jsn.sizeJ_mk, Jsn.sizeL_nil]; simp [Jsn.lenK]; omega
        have := RSame_all (.mk 4 (Utf.rep s) [] []) _ _ _ W (h1 W) (h1 W) h2 h2
        rw [Jsn.sameJ_refl] at this
        exact this
      have h5z : Jsn.sizeJ (.mk 5 [] [] cs) ≤ 1000000000 := by rw [Jsn.sizeJ_mk]; simp [Jsn.lenK]; omega
      have h5v : ∀ W, Below wr.heap.size wr W → RV (fun _ => True) W (.mk 5 [] [] cs) (vv (.int .i64 5) (.string ⟨#[]⟩) (.slice none 0 0) (.slice ka ps.length kc)) := fun W hW => RV_mk.2 ⟨_, _, rfl, .inl ⟨_, _, rfl, rfl⟩, hRK.keep hW.size (fun k _ hl => ⟨trivial, hW.block k hl⟩)⟩
      have CLs := hideP (fun W (hW : Below wr.heap.size wr W) => Lists_any cs _ W (hRK.keep hW.size (fun k _ hl => ⟨trivial, hW.block k hl⟩)) (by omega) (by omega))
      have CS2 : Hid (∀ W (hW : Below wr.heap.size wr W) (x : Value), RV (fun _ => True) W (.mk 5 [] [] cs) x → Calls Tryz.prog 8 #[x, vv (.int .i64 5) (.string ⟨#[]⟩) (.slice none 0 0) (.slice ka ps.length kc)] W fun e w' => e = .returned (.bool true) ∧ Below W.heap.size W w') := fun W hW x hx => by
        have := RSame_all (.mk 5 [] [] cs) _ _ _ W hx (h5v W hW) h5z h5z
        rw [Jsn.sameJ_refl] at this
        exact this
      have CTh := hideP (fun W (hW : Below wr.heap.size wr W) => theirs_any ps _ W (HPS.out W hW) (by omega))
      have CTb := hideP (fun W x (hx : RPs W ps x) => Tables_any ps x W hx (by omega) (fun q hq => ⟨(hall q hq).1, by have := (hall q hq).2; omega⟩))
      have CRT := hideP (fun W (hW : Below wr.heap.size wr W) => RTables_any ps _ W (HPS.out W hW) (by omega) (fun q hq => (hall q hq).1))
      have CS3 : Hid (∀ W (x y : Value), RV (fun _ => True) W (Jsn.tabJ ps) x → RV (fun _ => True) W (Jsn.tabJ ps) y → Calls Tryz.prog 8 #[x, y] W fun e w' => e = .returned (.bool true) ∧ Below W.heap.size W w') := fun W x y hx hy => by
        have := RSame_all (Jsn.tabJ ps) _ _ _ W hx hy htz htz
        rw [Jsn.sameJ_refl] at this
        exact this
      clear hRK h5v h5z hkz htz hall HFIT H HPS hcl
      have hW : Below wr.heap.size wr wr := Below.refl _ _
      generalize Utf.rep s = r at *
      generalize Jsn.tabJ ps = tj at *
      go_upto_region 13 with (first
        | (go_at_call 6; refine (CQ.out _).mono ?_; rintro e y1 ⟨rfl, hn⟩; replace hW := bel hW hn; clear hn CQ)
        | (go_at_call 7; refine (CRQ.out _).mono ?_; rintro e y2 ⟨rfl, hn⟩; replace hW := bel hW hn; clear hn CRQ)
        | (go_at_call 9; refine (CO.out _).mono ?_; rintro e y3 ⟨rfl, hn⟩; replace hW := bel hW hn; clear hn CO)
        | (go_at_call 10; refine (CRR.out _).mono ?_; rintro e y4 ⟨rfl, hn⟩; replace hW := bel hW hn; clear hn CRR)
        | (go_at_call 11; refine (CLs.out _ hW).mono ?_; rintro e y5 ⟨x5, rfl, hx5, hn⟩; replace hW := bel hW hn; clear hn CLs)
        | (go_at_call 13; refine (CTh.out _ hW).mono ?_; rintro e y6 ⟨x6, rfl, hx6, hn⟩; replace hW := bel hW hn; clear hn CTh)
        | (go_at_call 12; refine (CTb.out _ _ hx6).mono ?_; rintro e y7 ⟨x7, rfl, hx7, hn⟩; replace hW := bel hW hn; clear hn CTb hx6)
        | (go_at_call 14; refine (CRT.out _ hW).mono ?_; rintro e y8 ⟨x8, rfl, hx8, hn⟩; replace hW := bel hW hn; replace hx7 := hx7.below hn; clear hn CRT)
        | (go_at_call 8; refine (CS1.out _).mono ?_; rintro e z1 ⟨rfl, hn⟩; replace hW := bel hW hn; clear hn CS1)
        | (go_at_call 8; refine (CS2.out _ hW _ hx5).mono ?_; rintro e z2 ⟨rfl, hn⟩; replace hW := bel hW hn; clear hn CS2 hx5)
        | (go_at_call 8; refine (CS3.out _ _ _ hx7 hx8).mono ?_; rintro e z3 ⟨rfl, hn⟩; replace hW := bel hW hn; clear hn CS3 hx7 hx8))
      clear hsz hj hss hlen h4 h3 hs0 hrl
      replace hW := bel hB hW
      clear hB
      have hil := Lib.itoa_length_le n hn0 hn1
      have CI : Hid (∀ W, Below w.heap.size w W → Calls Tryz.prog 16 #[.int .i64 n] W fun e w' => e = .returned (.agg #[.int .i64 3, .string (str (Lib.itoa n)), .slice none 0 0, .slice none 0 0]) ∧ Below W.heap.size W w') := fun W hW => Ints_any n W hn0 hn1 (HE.out.below hW)
      have CP : Hid (∀ W, Calls Tryz.prog 15 #[.string (str (Lib.itoa n))] W fun e w' => e = .returned (.tuple #[(.agg #[.int .i64 3, .string (str (Lib.itoa n)), .slice none 0 0, .slice none 0 0]), (.agg #[.int .i64 0, .int .i64 0])]) ∧ Below W.heap.size W w') := fun W => RParse_num (Lib.itoa n) W (by omega) (Jsn.itoa_num n) (Jsn.itoa_text n)
      have CS4 : Hid (∀ W, Calls Tryz.prog 8 #[vv (.int .i64 3) (.string (str (Lib.itoa n))) (.slice none 0 0) (.slice none 0 0), vv (.int .i64 3) (.string (str (Lib.itoa n))) (.slice none 0 0) (.slice none 0 0)] W fun e w' => e = .returned (.bool true) ∧ Below W.heap.size W w') := fun W => by
        have h1 : ∀ W, RV (fun _ => True) W (.mk 3 (Lib.itoa n) [] []) (vv (.int .i64 3) (.string (str (Lib.itoa n))) (.slice none 0 0) (.slice none 0 0)) := fun W => RV_mk.2 ⟨_, _, rfl, .inl ⟨_, _, rfl, rfl⟩, .inl ⟨_, _, rfl, rfl⟩⟩
        have h2 : Jsn.sizeJ (.mk 3 (Lib.itoa n) [] []) ≤ 1000000000 := by rw [Jsn.sizeJ_mk, Jsn.sizeL_nil]; simp [Jsn.lenK]; omega
        have := RSame_all (.mk 3 (Lib.itoa n) [] []) _ _ _ W (h1 W) (h1 W) h2 h2
        rw [Jsn.sameJ_refl] at this
        exact this
      have CM : Hid (∀ (b : Bool) W, Calls Tryz.prog 18 #[vv (.int .i64 2) (.string (str (boolT b))) (.slice none 0 0) (.slice none 0 0)] W fun e w' => e = .returned (.bool true) ∧ Below W.heap.size W w') := fun b W => by
        have h1 : RV (fun _ => True) W (.mk 2 (boolT b) [] []) (vv (.int .i64 2) (.string (str (boolT b))) (.slice none 0 0) (.slice none 0 0)) := RV_mk.2 ⟨_, _, rfl, .inl ⟨_, _, rfl, rfl⟩, .inl ⟨_, _, rfl, rfl⟩⟩
        have := RMay_any (.mk 2 (boolT b) [] []) _ W h1 (by cases b <;> decide +kernel)
        rw [show Jsn.mayJ (.mk 2 (boolT b) [] []) = true by cases b <;> decide +kernel] at this
        exact this
      have CB : Hid (∀ (b : Bool) W, Calls Tryz.prog 17 #[.bool b] W fun e w' => e = .returned (.agg #[.int .i64 2, .string (str (boolT b)), .slice none 0 0, .slice none 0 0]) ∧ Below W.heap.size W w') := fun b W => Bools_any b W
      have CBt : Hid (∀ W, Calls Tryz.prog 17 #[.bool true] W fun e w' => e = .returned (.agg #[.int .i64 2, .string ⟨#[116, 114, 117, 101]⟩, .slice none 0 0, .slice none 0 0]) ∧ Below W.heap.size W w') := fun W => Bools_any true W
      have CBf : Hid (∀ W, Calls Tryz.prog 17 #[.bool false] W fun e w' => e = .returned (.agg #[.int .i64 2, .string ⟨#[102, 97, 108, 115, 101]⟩, .slice none 0 0, .slice none 0 0]) ∧ Below W.heap.size W w') := fun W => Bools_any false W
      have CLv := hideP (fun W => alive7_any W)
      generalize Lib.itoa n = it at *
      clear HE
      have hfl := field_text
      go_upto_region 14 with (first
        | (go_at_call 16; refine (CI.out _ hW).mono ?_; rintro e y1 ⟨rfl, hn⟩; replace hW := bel hW hn; clear hn)
        | (go_at_call 15; refine (CP.out _).mono ?_; rintro e y2 ⟨rfl, hn⟩; replace hW := bel hW hn; clear hn CP))
      have hV6 : VAt ((y2.alloc (.cells #[.int .i64 3, .string (str it), .slice none 0 0, .slice none 0 0] 27)).alloc (.cells #[.int .i64 0, .int .i64 0] 41)) y2.heap.size (.int .i64 3) (.string (str it)) (.slice none 0 0) (.slice none 0 0) := VAtb (val_new y2 _) ((Below.refl _ _).alloc (Nat.le_refl _) _)
      have hF6 : FAt ((y2.alloc (.cells #[.int .i64 3, .string (str it), .slice none 0 0, .slice none 0 0] 27)).alloc (.cells #[.int .i64 0, .int .i64 0] 41)) (y2.heap.size + 1) 0 0 := by
        have := heap_alloc_last (y2.alloc (.cells #[.int .i64 3, .string (str it), .slice none 0 0, .slice none 0 0] 27)) (.cells #[.int .i64 0, .int .i64 0] 41)
        rw [show (y2.alloc (.cells #[.int .i64 3, .string (str it), .slice none 0 0, .slice none 0 0] 27)).heap.size = y2.heap.size + 1 by simp] at this
        exact this
      have hB6 : Below w.heap.size w ((y2.alloc (.cells #[.int .i64 3, .string (str it), .slice none 0 0, .slice none 0 0] 27)).alloc (.cells #[.int .i64 0, .int .i64 0] 41)) := (hW.alloc hW.size _).alloc (by have := hW.size; simp; omega) _
      obtain ⟨S, hS1⟩ : ∃ S : World → Prop, ∀ W, S W ↔ VAt W y2.heap.size (.int .i64 3) (.string (str it)) (.slice none 0 0) (.slice none 0 0) ∧ FAt W (y2.heap.size + 1) 0 0 ∧ Below w.heap.size w W := ⟨_, fun _ => Iff.rfl⟩
      have step : ∀ W W', S W → Below W.heap.size W W' → S W' := fun W W' h hb => by
        obtain ⟨h1, h2, h3⟩ := (hS1 W).1 h
        exact (hS1 W').2 ⟨VAtb h1 hb, (hb.block _ h2.lt).trans h2, bel h3 hb⟩
      have HF0 : ∀ W, S W → W.cell? ⟨y2.heap.size + 1, 0, none⟩ = some (.int .i64 0) ∧ W.cell? ⟨y2.heap.size + 1, 1, none⟩ = some (.int .i64 0) := fun W h => ⟨((hS1 W).1 h).2.1.cell 0, ((hS1 W).1 h).2.1.cell 1⟩
      refine wp_region_held_drew (S := S) (by kernel_rfl) (step _ _ ((hS1 _).2 ⟨hV6, hF6, hB6⟩) ((Below.refl _ _).drew)) (fun hS => ?_)
      clear hV6 hF6 hB6 hW
      refine takeH 0 81 (fv 0 0) rfl rfl (by kernel_rfl) (by kernel_rfl) (by kernel_rfl) (fun _ _ _ h => h) (Or.inl ⟨by kernel_rfl, fun W h => by obtain ⟨k0, k1⟩ := HF0 W h; go_simp⟩) hS ?_
      simp only [Act.put, List.setIfInBounds_toArray, List.set_cons_zero, List.set_cons_succ]
      refine takeH 1 82 (fv 0 0) rfl rfl (by kernel_rfl) (by kernel_rfl) (by kernel_rfl) (fun _ _ _ h => h) (Or.inl ⟨by kernel_rfl, fun W _ => by go_simp⟩) hS ?_
      simp only [Act.put, List.setIfInBounds_toArray, List.set_cons_zero, List.set_cons_succ]
      refine takeH 2 83 (.bool true) rfl rfl (by kernel_rfl) (by kernel_rfl) (by kernel_rfl) (fun _ _ _ h => h) (Or.inl ⟨by kernel_rfl, fun W _ => by go_simp⟩) hS ?_
      simp only [Act.put, List.setIfInBounds_toArray, List.set_cons_zero, List.set_cons_succ]
      refine takeH 3 84 (.bool true) rfl rfl (by kernel_rfl) (by kernel_rfl) (by kernel_rfl) (fun _ _ _ h => h) (Or.inl ⟨by kernel_rfl, fun W _ => by go_simp⟩) hS ?_
      simp only [Act.put, List.setIfInBounds_toArray, List.set_cons_zero, List.set_cons_succ]
      refine takeH 4 85 (.agg #[.int .i64 3, .string (str it), .slice none 0 0, .slice none 0 0]) rfl rfl (by kernel_rfl) (by kernel_rfl) (by kernel_rfl) (fun _ _ _ h => h) (hy_load_V (Operand.tmp 10) rfl (by kernel_rfl) y2.heap.size _ _ _ _ (by kernel_rfl) (fun W h => ((hS1 W).1 h).1)) hS ?_
      simp only [Act.put, List.setIfInBounds_toArray, List.set_cons_zero, List.set_cons_succ]
      refine takeH 5 86 (.int .i64 n) rfl rfl (by kernel_rfl) (by kernel_rfl) (by kernel_rfl) (fun _ _ _ h => h) (Or.inl ⟨by kernel_rfl, fun W _ => by go_simp⟩) hS ?_
      simp only [Act.put, List.setIfInBounds_toArray, List.set_cons_zero, List.set_cons_succ]
      refine wpAnyH_ready (rs := [6]) (by kernel_rfl) (by simp) ?_
      refine AllReadyH.cons rfl (fun K hK => ?_) AllReadyH.nil
      go_simp
      refine (CI.out _ ((hS1 _).1 hS).2.2).mono ?_
      rintro e q1 ⟨rfl, hY⟩
      refine hK.out _ _ (step _ _ hS hY) (fun hS => ?_)
      clear hK K
      clear hY
      refine wpAnyH_ready (rs := [7]) (by kernel_rfl) (by simp) ?_
      refine AllReadyH.cons rfl (fun K hK => ?_) AllReadyH.nil
      go_simp
      refine (CS4.out _).mono ?_
      rintro e q2 ⟨rfl, hY⟩
      refine hK.out _ _ (step _ _ hS hY) (fun hS => ?_)
      clear hK K
      clear hY
      refine takeH 8 89 (.bool true) rfl rfl (by kernel_rfl) (by kernel_rfl) (by kernel_rfl) (fun _ _ _ h => h) (Or.inl ⟨by kernel_rfl, fun W _ => by go_simp⟩) hS ?_
      simp only [Act.put, List.setIfInBounds_toArray, List.set_cons_zero, List.set_cons_succ]
      refine takeH 9 90 (.bool true) rfl rfl (by kernel_rfl) (by kernel_rfl) (by kernel_rfl) (fun _ _ _ h => h) (Or.inl ⟨by kernel_rfl, fun W _ => by go_simp⟩) hS ?_
      simp only [Act.put, List.setIfInBounds_toArray, List.set_cons_zero, List.set_cons_succ]
      refine wpAnyH_ready (rs := [10]) (by kernel_rfl) (by simp) ?_
      refine AllReadyH.cons rfl (fun K hK => ?_) AllReadyH.nil
      go_simp
      refine (CBt.out _).mono ?_
      rintro e q3 ⟨rfl, hY⟩
      refine hK.out _ _ (step _ _ hS hY) (fun hS => ?_)
      clear hK K
      clear hY
      refine takeH 11 92 (.string ⟨#[116, 114, 117, 101]⟩) rfl rfl (by kernel_rfl) (by kernel_rfl) (by kernel_rfl) (fun _ _ _ h => h) (Or.inl ⟨by kernel_rfl, fun W _ => by go_simp⟩) hS ?_
      simp only [Act.put, List.setIfInBounds_toArray, List.set_cons_zero, List.set_cons_succ]
      refine takeH 12 93 (.bool true) rfl rfl (by kernel_rfl) (by kernel_rfl) (by kernel_rfl) (fun _ _ _ h => h) (Or.inl ⟨by kernel_rfl, fun W _ => by go_simp⟩) hS ?_
      simp only [Act.put, List.setIfInBounds_toArray, List.set_cons_zero, List.set_cons_succ]
      refine takeH 13 94 (.bool true) rfl rfl (by kernel_rfl) (by kernel_rfl) (by kernel_rfl) (fun _ _ _ h => h) (Or.inl ⟨by kernel_rfl, fun W _ => by go_simp⟩) hS ?_
      simp only [Act.put, List.setIfInBounds_toArray, List.set_cons_zero, List.set_cons_succ]
      refine takeH 14 95 (.bool true) rfl rfl (by kernel_rfl) (by kernel_rfl) (by kernel_rfl) (fun _ _ _ h => h) (Or.inl ⟨by kernel_rfl, fun W _ => by go_simp⟩) hS ?_
      simp only [Act.put, List.setIfInBounds_toArray, List.set_cons_zero, List.set_cons_succ]
      refine wpAnyH_ready (rs := [15]) (by kernel_rfl) (by simp) ?_
      refine AllReadyH.cons rfl (fun K hK => ?_) AllReadyH.nil
      go_simp
      refine (CBf.out _).mono ?_
      rintro e q4 ⟨rfl, hY⟩
      refine hK.out _ _ (step _ _ hS hY) (fun hS => ?_)
      clear hK K
      clear hY
      refine takeH 16 97 (.string ⟨#[102, 97, 108, 115, 101]⟩) rfl rfl (by kernel_rfl) (by kernel_rfl) (by kernel_rfl) (fun _ _ _ h => h) (Or.inl ⟨by kernel_rfl, fun W _ => by go_simp⟩) hS ?_
      simp only [Act.put, List.setIfInBounds_toArray, List.set_cons_zero, List.set_cons_succ]
      refine takeH 17 98 (.bool true) rfl rfl (by kernel_rfl) (by kernel_rfl) (by kernel_rfl) (fun _ _ _ h => h) (Or.inl ⟨by kernel_rfl, fun W _ => by go_simp⟩) hS ?_
      simp only [Act.put, List.setIfInBounds_toArray, List.set_cons_zero, List.set_cons_succ]
      refine takeH 18 99 (.bool true) rfl rfl (by kernel_rfl) (by kernel_rfl) (by kernel_rfl) (fun _ _ _ h => h) (Or.inl ⟨by kernel_rfl, fun W _ => by go_simp⟩) hS ?_
      simp only [Act.put, List.setIfInBounds_toArray, List.set_cons_zero, List.set_cons_succ]
      refine takeH 19 100 (.bool true) rfl rfl (by kernel_rfl) (by kernel_rfl) (by kernel_rfl) (fun _ _ _ h => h) (Or.inl ⟨by kernel_rfl, fun W _ => by go_simp⟩) hS ?_
      simp only [Act.put, List.setIfInBounds_toArray, List.set_cons_zero, List.set_cons_succ]
      refine takeH 20 101 (.int .i64 n) rfl rfl (by kernel_rfl) (by kernel_rfl) (by kernel_rfl) (fun _ _ _ h => h) (Or.inl ⟨by kernel_rfl, fun W _ => by go_simp⟩) hS ?_
      simp only [Act.put, List.setIfInBounds_toArray, List.set_cons_zero, List.set_cons_succ]
      refine takeH 21 102 (.bool (decide (0 < n))) rfl rfl (by kernel_rfl) (by kernel_rfl) (by kernel_rfl) (fun _ _ _ h => h) (Or.inl ⟨by kernel_rfl, fun W _ => by go_simp⟩) hS ?_
      simp only [Act.put, List.setIfInBounds_toArray, List.set_cons_zero, List.set_cons_succ]
      refine wpAnyH_ready (rs := [22]) (by kernel_rfl) (by simp) ?_
      refine AllReadyH.cons rfl (fun K hK => ?_) AllReadyH.nil
      go_simp
      refine (CB.out _ _).mono ?_
      rintro e q5 ⟨rfl, hY⟩
      refine hK.out _ _ (step _ _ hS hY) (fun hS => ?_)
      clear hK K
      clear hY
      refine wpAnyH_ready (rs := [23]) (by kernel_rfl) (by simp) ?_
      refine AllReadyH.cons rfl (fun K hK => ?_) AllReadyH.nil
      go_simp
      refine (CM.out _ _).mono ?_
      rintro e q6 ⟨rfl, hY⟩
      refine hK.out _ _ (step _ _ hS hY) (fun hS => ?_)
      clear hK K
      clear hY
      refine takeH 24 105 (.bool true) rfl rfl (by kernel_rfl) (by kernel_rfl) (by kernel_rfl) (fun _ _ _ h => h) (Or.inl ⟨by kernel_rfl, fun W _ => by go_simp⟩) hS ?_
      simp only [Act.put, List.setIfInBounds_toArray, List.set_cons_zero, List.set_cons_succ]
      refine takeH 25 106 (.bool true) rfl rfl (by kernel_rfl) (by kernel_rfl) (by kernel_rfl) (fun _ _ _ h => h) (Or.inl ⟨by kernel_rfl, fun W _ => by go_simp⟩) hS ?_
      simp only [Act.put, List.setIfInBounds_toArray, List.set_cons_zero, List.set_cons_succ]
      refine wpAnyH_ready (rs := [26]) (by kernel_rfl) (by simp) ?_
      refine AllReadyH.cons rfl (fun K hK => ?_) AllReadyH.nil
      go_simp
      refine (CLv.out _).mono ?_
      rintro e q7 ⟨rfl, hY⟩
      refine hK.out _ _ (step _ _ hS hY) (fun hS => ?_)
      clear hK K
      clear hY
      refine takeH 27 108 (.bool true) rfl rfl (by kernel_rfl) (by kernel_rfl) (by kernel_rfl) (fun _ _ _ h => h) (Or.inl ⟨by kernel_rfl, fun W _ => by go_simp⟩) hS ?_
      simp only [Act.put, List.setIfInBounds_toArray, List.set_cons_zero, List.set_cons_succ]
      refine takeH 28 6 (.bool true) rfl rfl (by kernel_rfl) (by kernel_rfl) (by kernel_rfl) (fun _ _ _ h => h) (Or.inl ⟨by kernel_rfl, fun W _ => by go_simp⟩) hS ?_
      simp only [Act.put, List.setIfInBounds_toArray, List.set_cons_zero, List.set_cons_succ]
      refine wpAnyH_done (by kernel_rfl) ?_ _
      have hfin := ((hS1 _).1 hS).2.2
      go_wp2
      go_ret
      exact ⟨rfl, hfin⟩
theorem i64_bd {n : Int} (h : (Lit.int .i64 n).wf = true) : -9223372036854775808 ≤ n ∧ n ≤ 9223372036854775807 := bounds_i64 h
theorem walk (a : ByteArray) (n : Int) (ps : List (List UInt8 × Jsn.J)) (v : Value) (w : World) (h0 : a.size ≤ maxLen) (hn : (Lit.int .i64 n).wf = true) (hp : ArgP w v ps) (hE : Pow w) :
    Calls Tryz.prog 3 #[.string a, .int .i64 n, v] w fun e w' => e = .returned (.bool true) ∧ Below w.heap.size w w' := by
  have h := walkL a.data.toList n ps v w (Nat.le_trans (Nat.le_of_eq Array.length_toList) h0) (i64_bd hn).1 (i64_bd hn).2 hp hE
  rw [show str a.data.toList = a from (str_eq rfl).symm] at h
  exact h
end Go.Proofs.YtmmpbjpeiclacaaGreatDoor.jsonMakes
