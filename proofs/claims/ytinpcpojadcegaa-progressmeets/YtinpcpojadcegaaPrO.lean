/- ProgressMeets: the walk. -/
import Derived.Test.YtinpcpojadcegaaPrR
import Derived.Test.YtinpcpojadcegaaPrI
import Derived.Test.YtinpcpojadcegaaPrK
import Derived.Test.YtinpcpojadcegaaErD
namespace Go.Proofs.Ytinpcpojadcegaa.W
open Go.RowKit Go.Maps
set_option linter.unusedVariables false
set_option linter.unusedSimpArgs false
set_option maxRecDepth 100000
attribute [local go_sem] Oper.semAt_some

theorem tmod_in (x : Int) (m : Nat) (hm : 0 < m) : -(m : Int) < x.tmod m ∧ x.tmod m < m := by
  have h1 := Int.tmod_lt_of_pos x (show (0 : Int) < m by omega)
  have h2 : -(m : Int) < x.tmod m := by
    have := Int.tmod_lt_of_pos (-x) (show (0 : Int) < m by omega)
    rw [Int.neg_tmod] at this
    omega
  exact ⟨h2, h1⟩
set_option maxHeartbeats 16000000 in
theorem meets_any (sv tv : Value) (steps terms : List Int) (same other : Int) (w : World) (hs : C.IntsR w sv steps) (ht : C.IntsR w tv terms) (hls : steps.length < 17592186044416) (hlt : terms.length < 17592186044416) (h1 : I64 same) (h2 : I64 other) :
    Calls Try.prog 7 #[sv, .int .i64 same, .int .i64 other, tv] w fun e w' => e = .returned (.bool true) ∧ w.grownBy w' none := by
  obtain ⟨a1, c1, rfl⟩ := hs.len
  obtain ⟨a2, c2, rfl⟩ := ht.len
  have HE := hid_mk (And.intro hs ht)
  clear hs ht
  unfold I64 at h1 h2
  have h40 : (steps.length : Int).tmod 40 = ((steps.length % 40 : Nat) : Int) := by rw [Int.tmod_eq_emod_of_nonneg (by omega)]; omega
  obtain ⟨n, hn⟩ : ∃ n, n = steps.length % 40 := ⟨_, rfl⟩
  rw [← hn] at h40
  have hn39 : n ≤ 39 := by omega
  clear hn
  go_enter Try.func7, Try.ntmps7
  go_upto_region 2 with fail
  go_wp2_with fail
  refine (rows_any 0 2 _ steps n w HE.out.1 hls (by omega) (by omega)).mono ?_
  rintro e w1 ⟨rv, ps, rfl, heo, hmap⟩
  obtain ⟨ra, rc, hrv⟩ := row_shape heo.row
  subst hrv
  have hpl : ps.length = n := by have := congrArg List.length hmap; rw [List.length_map, rowsL_len] at this; exact this
  have hrd := heo.reads
  rw [hmap, hpl] at hrd
  rw [hpl]
  have H1 := hid_mk (And.intro hrd heo.gr)
  clear heo hmap hpl hrd ps
  obtain ⟨A, hA⟩ : ∃ A, A = rowsL 0 2 steps n := ⟨_, rfl⟩
  rw [← hA] at H1
  have hAl : A.length = n := by rw [hA]; exact rowsL_len _ _ _ _
  have HA := hid_mk hA
  clear hA
  go_wp2_with fail
  refine (view_any 0 0 _ A w1 H1.out.1 (by omega)).mono ?_
  rintro e w2 ⟨lv', ps, rfl, heo, hmap⟩
  obtain ⟨la, lc, hv⟩ := row_shape heo.row
  subst hv
  have hpl : ps.length = n := by have := congrArg List.length hmap; rw [List.length_map, hAl] at this; exact this
  have hrd := heo.reads
  rw [hmap, hpl] at hrd
  rw [hpl]
  have hVL : viewV 0 0 (.slice la n lc) = .agg #[.int .i64 0, .int .i64 0, .slice la n lc] := rfl
  have HVL := hid_mk hVL
  rw [hVL]
  clear hVL
  have H2 := hid_mk (show EntsR (w2.alloc (.cells #[.int .i64 0, .int .i64 0, .slice la n lc] 25)) (.slice la n lc) A ∧ VB (w2.alloc (.cells #[.int .i64 0, .int .i64 0, .slice la n lc] 25)) w2.heap.size 0 0 (.slice la n lc) ∧ w.grownBy (w2.alloc (.cells #[.int .i64 0, .int .i64 0, .slice la n lc] 25)) none from
    ⟨hrd.kept (World.grownBy_alloc _ _ none), VB.new _ _ _ _, grown_trans (grown_trans H1.out.2 heo.gr) (World.grownBy_alloc _ _ none)⟩)
  clear heo hmap hpl hrd ps H1
  go_upto_region 3 with fail
  generalize w2.alloc (.cells #[.int .i64 0, .int .i64 0, .slice la n lc] 25) = wF at *
  obtain ⟨pL, hpL⟩ : ∃ pL, pL = w2.heap.size := ⟨_, rfl⟩
  rw [← hpL] at H2 ⊢
  clear hpL
  have ht1 := tmod_in same (n + 1) (by omega)
  have hn1 : ((n + 1 : Nat) : Int) = (n : Int) + 1 := by omega
  rw [hn1] at ht1
  clear hn1
  go_upto_region 4 with fail
  obtain ⟨S, hS⟩ : ∃ S : Nat, (same.tmod ((n : Int) + 1) + n + 1) % ((n : Int) + 1) = S := ⟨((same.tmod ((n : Int) + 1) + n + 1) % ((n : Int) + 1)).toNat, by have := Int.emod_nonneg (same.tmod ((n : Int) + 1) + n + 1) (show ((n : Int) + 1) ≠ 0 by omega); omega⟩
  have hSn : S ≤ n := by have := Int.emod_lt_of_pos (same.tmod ((n : Int) + 1) + n + 1) (show 0 < ((n : Int) + 1) by omega); omega
  rw [hS]
  clear hS ht1 h1
  go_wp2_with fail
  refine (rows_any 0 2 _ steps S wF (HE.out.1.kept H2.out.2.2) hls (by omega) (by omega)).mono ?_
  rintro e w3 ⟨rv, ps, rfl, heo, hmap⟩
  obtain ⟨qa, qc, hrv⟩ := row_shape heo.row
  subst hrv
  have hpl : ps.length = S := by have := congrArg List.length hmap; rw [List.length_map, rowsL_len] at this; exact this
  have hrd := heo.reads
  rw [hmap, hpl] at hrd
  rw [hpl]
  have H3 := hid_mk (And.intro hrd heo.gr)
  clear heo hmap hpl hrd ps
  go_wp2_with fail
  refine (view_any 0 0 _ (rowsL 0 2 steps S) w3 H3.out.1 (by rw [rowsL_len]; omega)).mono ?_
  rintro e w4 ⟨lv', ps, rfl, heo, hmap⟩
  obtain ⟨fa, fc, hv⟩ := row_shape heo.row
  subst hv
  have hpl : ps.length = S := by have := congrArg List.length hmap; rw [List.length_map, rowsL_len] at this; exact this
  rw [hpl] at heo ⊢
  rw [show viewV 0 0 (.slice fa S fc) = .agg #[.int .i64 0, .int .i64 0, .slice fa S fc] from rfl]
  have H4 := hid_mk (show EO wF (w4.alloc (.cells #[.int .i64 0, .int .i64 0, .slice fa S fc] 25)) (.slice fa S fc) ps ∧ ps.map (·.1) = rowsL 0 2 steps S ∧ VB (w4.alloc (.cells #[.int .i64 0, .int .i64 0, .slice fa S fc] 25)) w4.heap.size 0 0 (.slice fa S fc) ∧ wF.heap.size ≤ w4.heap.size ∧ ps.length = S from
    ⟨(heo.base H3.out.2).kept (World.grownBy_alloc _ _ none), hmap, VB.new _ _ _ _, (grown_trans H3.out.2 heo.gr).size, hpl⟩)
  clear heo hmap hpl H3
  go_upto_region 5 with fail
  generalize w4.alloc (.cells #[.int .i64 0, .int .i64 0, .slice fa S fc] 25) = w5 at *
  obtain ⟨pF, hpF⟩ : ∃ pF, pF = w4.heap.size := ⟨_, rfl⟩
  rw [← hpF] at H4 ⊢
  clear hpF
  obtain ⟨LT, hLT⟩ : ∃ LT, LT = tmAt 2 steps S := ⟨_, rfl⟩
  have hLTb := (tmAt_in 2 steps S).2.1
  rw [← hLT] at hLTb
  have HLT := hid_mk hLT
  clear hLT
  go_upto_if 41 with fail
  go_cut [12] (fun s wx => s = .int .i64 LT ∧ wx = w5)
  case first =>
    cases S with
    | zero =>
      have hLT2 : LT = 2 := HLT.out
      go_wp2_with fail
      go_meet
      case rel => exact ⟨by rw [hLT2]; rfl, rfl⟩
    | succ S =>
      have hp0 : (0 : Int) < ((S + 1 : Nat) : Int) := by omega
      have hx := rowsL_get (index := 0) (t := 2) (steps := steps) (show S < S + 1 by omega)
      have hrd := H4.out.1.reads
      rw [H4.out.2.1] at hrd
      obtain ⟨eb, off, hae, hcap, hcs⟩ := hrd.at (by rw [rowsL_len]; omega)
      obtain ⟨dv, q0, q1, q2, q3, hxb, hxl⟩ := hcs S _ hx
      rw [show (eN (tmAt 2 steps (S + 1)) (0 + 1 + S)).term = ((tmAt 2 steps (S + 1) : Nat) : Int) from rfl, ← HLT.out] at q0
      clear hcs hxb hxl hx q1 q2 q3 hrd
      subst hae
      have hsub : ((S + 1 : Nat) : Int) - 1 = (S : Int) := by omega
      have hslt : (S : Int) < ((S + 1 : Nat) : Int) := by omega
      obtain ⟨v0, v1, v2⟩ := H4.out.2.2.1.cells
      go_wp2_with fail
      go_meet
      case rel => exact ⟨rfl, rfl⟩
  case rest =>
    obtain ⟨rfl, hwx⟩ := hcut
    rw [hwx]
    clear hwx
    obtain ⟨cnt, hcnt⟩ : ∃ cnt : Nat, (other.tmod 20 + 20) % 20 = cnt := ⟨((other.tmod 20 + 20) % 20).toNat, by omega⟩
    have hc19 : cnt ≤ 19 := by omega
    have hcnt2 : other.tmod 20 % 20 = cnt := by omega
    have hto := tmod_in other 20 (by omega)
    have hto' : -20 < other.tmod 20 ∧ other.tmod 20 < 20 := hto
    obtain ⟨LT1, hLT1⟩ : ∃ LT1 : Nat, (LT : Int) + 1 = LT1 := ⟨LT + 1, by omega⟩
    have HLT1 := hid_mk (show LT1 = LT + 1 by omega)
    have hLT1b : LT1 ≤ 159 := by omega
    clear hto
    have hw1 : IntKind.i64.wrap (LT1 : Int) = LT1 := by rw [IntKind.wrap_i64]; omega
    have hw2 : (IntKind.i64.wrap (other.tmod 20 + 20)).tmod 20 = cnt := by rw [show IntKind.i64.wrap (other.tmod 20 + 20) = other.tmod 20 + 20 by rw [IntKind.wrap_i64]; omega, Int.tmod_eq_emod_of_nonneg (by omega)]; exact hcnt
    go_upto_region 8 with fail
    have HC8 : ∀ W, (VB W pF 0 0 (.slice fa S fc) ∧ wF.grownBy W none) → W.cell? ⟨pF, 0, none⟩ = some (.int .i64 0) ∧ W.cell? ⟨pF, 1, none⟩ = some (.int .i64 0) ∧ W.cell? ⟨pF, 2, none⟩ = some (.slice fa S fc) := fun W hW => hW.1.cells
    refine wp_region_mixL [(0, true), (1, true), (2, true), (3, true), (4, true), (5, true), (6, true), (7, true), (8, true), (9, true), (10, false), (11, false), (12, true)] 13 (at0 w5 (fun W => VB W pF 0 0 (.slice fa S fc) ∧ wF.grownBy W none)) (by kernel_rfl) (by kernel_rfl) rfl (by kernel_rfl) rfl (by kernel_rfl) (shut_at0 (fun m => ⟨H4.out.2.2.1.kept (grown_drewN _ m none) (by simp), grown_trans H4.out.1.gr (grown_drewN _ m none)⟩)) ⟨1, rfl⟩ ?_
    repeat (refine mix_rd1 rfl rfl (fun K hK => ?_); apply Exists.intro; refine ⟨fun W hW => ?_, ?_⟩; (obtain ⟨d0, d1, d2⟩ := HC8 W hW; go_simp; rfl); (go_simp; refine hK _ _ ?_; clear hK K))
    refine mix_call rfl rfl 20 #[.int .i64 S, .int .i64 LT1, .slice a2 terms.length c2, .int .i64 cnt] (fun W => by go_simp) ?_
    rintro W ⟨m8, rfl⟩
    have g8 := grown_drewN w5 m8 none
    refine (rows_any S LT1 _ terms cnt (w5.drewN m8) (HE.out.2.kept (grown_trans H2.out.2.2 (grown_trans H4.out.1.gr g8))) hlt (by omega) (by omega)).mono ?_
    rintro e w6 ⟨rv, qs, rfl, heo, hmap⟩
    obtain ⟨oa, oc, hrv⟩ := row_shape heo.row
    subst hrv
    have hql : qs.length = cnt := by have := congrArg List.length hmap; rw [List.length_map, rowsL_len] at this; exact this
    have H6 := hid_mk (show EO wF w6 (.slice oa qs.length oc) qs ∧ qs.map (·.1) = rowsL S LT1 terms cnt ∧ EO wF w6 (.slice fa S fc) ps ∧ VB w6 pF 0 0 (.slice fa S fc) from
      ⟨heo.base (grown_trans H4.out.1.gr g8), hmap, H4.out.1.kept (grown_trans g8 heo.gr), H4.out.2.2.1.kept (grown_trans g8 heo.gr) (by simp)⟩)
    clear heo hmap g8
    refine ⟨_, rfl, at0 w6 (fun W => VB W pF 0 0 (.slice fa S fc) ∧ wF.grownBy W none), ⟨0, rfl⟩, shut_at0 (fun m => ⟨H6.out.2.2.2.kept (grown_drewN _ m none) (by simp), grown_trans H6.out.1.gr (grown_drewN _ m none)⟩), fun _ h => h, ?_⟩
    refine mix_app (w := wF) (v := .slice fa S fc) (v2 := .slice oa qs.length oc) (ps := ps) (qs := qs) rfl rfl (.tmp 50) (.tmp 59) rfl (by go_simp) (by go_simp) (by have := H4.out.2.2.2.2; omega) (fun W hW => by
      obtain ⟨m, rfl⟩ := hW
      exact ⟨H6.out.2.2.1.kept (grown_drewN _ m none), H6.out.1.kept (grown_drewN _ m none)⟩) ?_
    rintro W ⟨m9, rfl⟩ na nc w7 heo hg
    obtain ⟨nl, hnl⟩ : ∃ nl, nl = ps.length + qs.length := ⟨_, rfl⟩
    rw [← hnl] at heo ⊢
    have hVk : VB w7 pF 0 0 (.slice fa S fc) := by
      have hvb := H6.out.2.2.2.kept (grown_drewN w6 m9 none) (by simp)
      exact hvb.kept hg (Ne.symm (fun e => (own_tag (H6.out.2.2.1.kept (grown_drewN w6 m9 none)).row hvb (by decide)) e.symm))
    have H7 := hid_mk (show EO wF w7 (.slice na nl nc) (ps ++ qs) ∧ VB w7 pF 0 0 (.slice fa S fc) from ⟨heo, hVk⟩)
    clear heo hg hVk
    refine ⟨at0 w7 (fun W => VB W pF 0 0 (.slice fa S fc) ∧ wF.grownBy W none), ⟨0, rfl⟩, shut_at0 (fun m => ⟨H7.out.2.kept (grown_drewN _ m none) (by simp), grown_trans H7.out.1.gr (grown_drewN _ m none)⟩), fun _ h => h, ?_⟩
    repeat (refine mix_rd1 rfl rfl (fun K hK => ?_); apply Exists.intro; refine ⟨fun W hW => ?_, ?_⟩; (obtain ⟨d0, d1, d2⟩ := HC8 W hW; go_simp; rfl); (go_simp; refine hK _ _ ?_; clear hK K))
    refine mix_nil ?_
    refine ⟨rfl, ?_⟩
    rintro W ⟨mA, rfl⟩
    have hvb := H7.out.2.kept (grown_drewN w7 mA none) (by simp)
    obtain ⟨d0, d1, d2⟩ := hvb.cells
    have dz := hvb.frozen (i := 2)
    refine ⟨(w7.drewN mA).setCell ⟨pF, 2, none⟩ (.slice na nl nc), by go_simp, ?_⟩
    have H8 := hid_mk (show EO wF ((w7.drewN mA).setCell ⟨pF, 2, none⟩ (.slice na nl nc)) (.slice na nl nc) (ps ++ qs) ∧ VB ((w7.drewN mA).setCell ⟨pF, 2, none⟩ (.slice na nl nc)) pF 0 0 (.slice na nl nc) ∧ (ps ++ qs).map (·.1) = rowsL 0 2 steps S ++ rowsL S (tmAt 2 steps S + 1) terms cnt ∧ nl = (ps ++ qs).length from by
      refine ⟨(H7.out.1.kept (grown_drewN w7 mA none)).but hvb (by decide) (by decide) H4.out.2.2.2.1 (grown_setCell _ pF 2 _), hvb.set2 _, ?_, ?_⟩
      · rw [List.map_append, H4.out.2.1, H6.out.2.1, HLT1.out, HLT.out]
      · rw [hnl, List.length_append])
    have HpF := hid_mk H4.out.2.2.2.1
    clear hvb d0 d1 d2 dz H7 H6 H4 HC8 hnl hql hw1 hw2 hcnt hcnt2 hto' hLT1
    generalize (w7.drewN mA).setCell ⟨pF, 2, none⟩ (.slice na nl nc) = w8 at *
    obtain ⟨fps, hfps⟩ : ∃ fps, fps = ps ++ qs := ⟨_, rfl⟩
    rw [← hfps] at H8
    clear hfps
    have HMeet := hid_mk (meet_start (steps := steps) (terms := terms) hn39 hSn hc19)
    rw [← H8.out.2.2.1, ← HA.out] at HMeet
    go_wp2_with fail
    refine (begin_any n (by unfold J64; omega) w8).mono ?_
    rintro e w9 ⟨rfl, hg⟩
    rw [show behZ (max (n : Int) 0) = (n : Int) + 1 from by rw [show max (n : Int) 0 = n by omega]; exact behZ_low (by omega)]
    rw [show peerV ((n : Int) + 1) 0 = .agg #[.int .i64 ((n : Int) + 1), .int .i64 0] from rfl]
    have H9 := hid_mk (show EO wF (w9.alloc (.cells #[.int .i64 ((n : Int) + 1), .int .i64 0] 42)) (.slice na nl nc) fps ∧ VB (w9.alloc (.cells #[.int .i64 ((n : Int) + 1), .int .i64 0] 42)) pF 0 0 (.slice na nl nc) ∧ PB (w9.alloc (.cells #[.int .i64 ((n : Int) + 1), .int .i64 0] 42)) w9.heap.size ((n : Int) + 1) 0 ∧ pF < w9.heap.size from by
      have g := grown_trans hg (World.grownBy_alloc w9 (.cells #[.int .i64 ((n : Int) + 1), .int .i64 0] 42) none)
      exact ⟨H8.out.1.kept g, H8.out.2.1.kept g (by simp), PB.new _ _ _, Nat.lt_of_lt_of_le H8.out.2.1.lt hg.size⟩)
    have HNL := hid_mk H8.out.2.2.2
    clear hg H8
    go_upto_region 10 with fail
    generalize w9.alloc (.cells #[.int .i64 ((n : Int) + 1), .int .i64 0] 42) = wA at *
    obtain ⟨pP, hpP⟩ : ∃ pP, pP = w9.heap.size := ⟨_, rfl⟩
    rw [← hpP] at H9 ⊢
    clear hpP
    have H0 := hid_mk (show EO wF wA (.slice na nl nc) fps ∧ nl = (fps.map (·.1)).length ∧ VB wA pF 0 0 (.slice na nl nc) ∧ PB wA pP ((n : Int) + 1) 0 ∧ Meet A (fps.map (·.1)) n S ∧ Knw n S ((n : Int) + 1) 0 0 from
      ⟨H9.out.1, by rw [HNL.out, List.length_map], H9.out.2.1, H9.out.2.2.1, HMeet.out, Knw.start n S⟩)
    have HP := hid_mk (show wF.heap.size ≤ pF ∧ pF < pP from ⟨HpF.out, H9.out.2.2.2⟩)
    have hnl0 : nl ≤ 100 := by have h1 := H0.out.2.1; have h2 := H0.out.2.2.2.2.1.lf; omega
    clear H9 HMeet HpF HNL hLTb HLT HLT1 hLT1b hc19 hSn h2 hlt hls h40
    go_wp2_with fail
    go_loopw [14] (fun tv W => ∃ (turn : Nat) (nx mt : Int) (k : Nat) (fa : Option Addr) (fl fc : Nat) (fps : List (Ent × Value)), tv = .int .i64 turn ∧ fl ≤ 100 ∧ turn ≤ 2 * n + 1 ∧ (0 ≤ mt ∧ mt ≤ n ∧ mt < nx ∧ nx ≤ n + 1) ∧ Hid (EO wF W (.slice fa fl fc) fps ∧ fl = (fps.map (·.1)).length ∧ VB W pF 0 0 (.slice fa fl fc) ∧ PB W pP nx mt ∧ Meet A (fps.map (·.1)) n k ∧ Knw n k nx mt turn)) (fun tv _ => 2 * n + 2 - (intOf tv).toNat)
    case atStart => exact ⟨0, _, _, S, na, nl, nc, fps, rfl, hnl0, by omega, ⟨by omega, by omega, by omega, by omega⟩, hid_mk H0.out⟩
    case round =>
      clear H0 hnl0
      obtain ⟨turn, nx, mt, k, fa, fl, fc, fps, rfl, hfl, htu, hpe, H⟩ := hrel
      rename World => wr
      have hcond : (turn : Int) < 2 * ((n : Int) + fl) + 4 := by omega
      obtain ⟨F, hF⟩ : ∃ F, F = fps.map (·.1) := ⟨_, rfl⟩
      rw [← hF] at H
      have HF := hid_mk hF
      clear hF
      obtain ⟨f0, f1, f2⟩ := H.out.2.2.1.cells
      obtain ⟨g0, g1⟩ := H.out.2.2.2.1.cells
      by_cases hm : mt = n
      · have hm' : (mt == (n : Int)) = true := by simpa using hm
        go_upto_region 19 with fail
        subst hm
        obtain rfl : k = n := by have h1 := H.out.2.2.2.2.1.kn; have h2 := H.out.2.2.2.2.2.mk_; omega
        have hnf : (k : Int) ≤ fl := by have h1 := H.out.2.2.2.2.1.kf; have h2 := H.out.2.1; omega
        have HD := hid_mk (H.out.2.2.2.2.1.done)
        have HW := hid_mk (show wF.grownBy wr none from H.out.1.gr)
        have hrd := H.out.1.reads
        rw [← HF.out] at hrd
        obtain ⟨sa, sc, hsl, hrs⟩ := hrd.h k (by have := H.out.2.1; omega)
        rw [HD.out] at hrs
        have HRS := hid_mk hrs
        clear hrd hrs hm'
        have hne : ((k : Int) != (k : Int)) = false := by simp
        have hnlt : ¬ (fl : Int) < k := by omega
        have HCL : ∀ W, wr.grownBy W none → W.cell? ⟨pP, 1, none⟩ = some (.int .i64 k) ∧ W.cell? ⟨pF, 2, none⟩ = some (.slice fa fl fc) ∧ W.cell? ⟨pL, 2, none⟩ = some (.slice la k lc) := fun W hW =>
          ⟨(H.out.2.2.2.1.kept hW (by simp)).cells.2, (H.out.2.2.1.kept hW (by simp)).cells.2.2, (H2.out.2.1.kept (grown_trans HW.out hW) (by simp)).cells.2.2⟩
        clear f0 f1 f2 g0 g1
        refine wp_region_mix [(0, true), (1, true), (2, true), (3, true), (4, true), (5, true), (6, true), (7, true), (8, true), (9, true), (10, true), (11, true), (12, true), (13, true), (14, true), (15, true), (16, true), (17, true), (18, false), (19, false), (20, true), (21, true)] (at0 wr (fun W => wr.grownBy W none)) (by kernel_rfl) (by kernel_rfl) rfl (by kernel_rfl) (shut_at0 (fun m => grown_drewN _ m none)) ⟨1, rfl⟩ ?_
        repeat (refine mix_rd1 rfl rfl (fun K hK => ?_); apply Exists.intro; refine ⟨fun W hW => ?_, ?_⟩; (obtain ⟨d0, d1, d2⟩ := HCL W hW; go_simp; rfl); (go_simp; refine hK _ _ ?_; clear hK K))
        refine mix_call rfl rfl 23 #[.slice la k lc] (fun W => by go_simp) ?_
        rintro W ⟨mB, rfl⟩
        have gB := grown_drewN wr mB none
        refine (ownL_any _ A (wr.drewN mB) (H2.out.1.kept (grown_trans HW.out gB)) (by omega)).mono ?_
        rintro e wB ⟨ov, ops, rfl, heo, hmap⟩
        obtain ⟨oa, oc, hov⟩ := row_shape heo.row
        subst hov
        have hro := heo.reads
        rw [hmap] at hro
        have GB := hid_mk (show wr.grownBy wB none from grown_trans gB heo.gr)
        have HO := hid_mk hro
        clear heo hmap hro gB
        refine ⟨_, rfl, at0 wB (fun W => wr.grownBy W none), ⟨0, rfl⟩, shut_at0 (all_kept GB.out), fun _ h => h, ?_⟩
        refine mix_call rfl rfl 11 #[.slice sa k sc, .slice oa ops.length oc] (fun W => by go_simp) ?_
        rintro W ⟨mC, rfl⟩
        have gC := grown_drewN wB mC none
        refine (entriesEq_any _ _ A (wB.drewN mC) (HRS.out.kept (grown_trans GB.out gC)) (HO.out.kept gC) (by omega)).mono ?_
        rintro e wC ⟨rfl, hg⟩
        have GC := hid_mk (show wr.grownBy wC none from grown_trans GB.out (grown_trans gC hg))
        clear hg gC
        refine ⟨_, rfl, at0 wC (fun W => wr.grownBy W none), ⟨0, rfl⟩, shut_at0 (all_kept GC.out), fun _ h => h, ?_⟩
        repeat (refine mix_rd1 rfl rfl (fun K hK => ?_); apply Exists.intro; refine ⟨fun W hW => ?_, ?_⟩; (go_simp; rfl); (go_simp; refine hK _ _ ?_; clear hK K))
        refine mix_nil ?_
        rintro W ⟨mD, rfl⟩
        have GD := hid_mk (show w.grownBy (wC.drewN mD) none from grown_trans H2.out.2.2 (grown_trans HW.out (grown_trans GC.out (grown_drewN _ mD none))))
        clear GC GB
        generalize wC.drewN mD = wD at *
        go_wp2_with fail
        refine (knows_any wD).mono ?_
        rintro e wy ⟨rfl, hg⟩
        have GY := hid_mk (grown_trans GD.out hg)
        clear hg
        go_wp2
        go_ret
        exact ⟨rfl, GY.out⟩
      · have hm' : (mt == (n : Int)) = false := by simpa using hm
        obtain ⟨p, hp⟩ : ∃ p : Nat, nx = p + 1 := ⟨(nx - 1).toNat, by omega⟩
        subst hp
        have hpn : p ≤ n := by omega
        have HB := hid_mk (H.out.2.2.2.2.1.bat hpn rfl)
        have HW := hid_mk (show wF.grownBy wr none from H.out.1.gr)
        obtain ⟨l0, l1, l2⟩ := (H2.out.2.1.kept HW.out (by simp)).cells
        go_wp2_with fail
        rw [← HVL.out]
        refine (batch_any 0 0 _ A ((p : Int) + 1) wr (H2.out.1.kept HW.out) (by omega) (by unfold I64; omega) (by unfold I64; omega)).mono ?_
        rintro e w1 ⟨bv, bps, rfl, heo, hmap⟩
        rw [HVL.out]
        rw [HB.out] at hmap ⊢
        simp only at hmap
        obtain ⟨ba, bc, hbv⟩ := row_shape heo.row
        subst hbv
        have hbl : bps.length = (btc A p).length := by have := congrArg List.length hmap; rw [List.length_map] at this; exact this
        have hrb := heo.reads
        rw [hmap, hbl] at hrb
        rw [hbl]
        obtain ⟨TT, hTT⟩ : ∃ TT, TT = termA 0 0 A p := ⟨_, rfl⟩
        rw [← hTT]
        have HTT := hid_mk hTT
        clear hTT
        rw [show batV ⟨false, (p : Int), TT, btc A p⟩ (.slice ba (btc A p).length bc) = .agg #[.bool false, .int .i64 p, .int .i64 TT, .slice ba (btc A p).length bc] from rfl]
        have H1 := hid_mk (show EntsR (w1.alloc (.cells #[.bool false, .int .i64 p, .int .i64 TT, .slice ba (btc A p).length bc] 28)) (.slice ba (btc A p).length bc) (btc A p) ∧ SB (w1.alloc (.cells #[.bool false, .int .i64 p, .int .i64 TT, .slice ba (btc A p).length bc] 28)) 28 w1.heap.size false p TT (.slice ba (btc A p).length bc) ∧ wr.grownBy (w1.alloc (.cells #[.bool false, .int .i64 p, .int .i64 TT, .slice ba (btc A p).length bc] 28)) none from
          ⟨hrb.kept (World.grownBy_alloc _ _ none), SB.new _ _ _ _ _ _, grown_trans heo.gr (World.grownBy_alloc _ _ none)⟩)
        clear heo hmap hbl hrb l0 l1 l2 f0 f1 f2 g0 g1
        go_upto_region 15 with fail
        generalize w1.alloc (.cells #[.bool false, .int .i64 p, .int .i64 TT, .slice ba (btc A p).length bc] 28) = w2 at *
        obtain ⟨pB, hpB⟩ : ∃ pB, pB = w1.heap.size := ⟨_, rfl⟩
        rw [← hpB] at H1 ⊢
        clear hpB
        obtain ⟨bl, hbl⟩ : ∃ bl, bl = (btc A p).length := ⟨_, rfl⟩
        rw [← hbl] at H1 ⊢
        have HBL := hid_mk hbl
        clear hbl
        obtain ⟨b0, b1, b2, b3⟩ := H1.out.2.1.cells
        obtain ⟨f0, f1, f2⟩ := (H.out.2.2.1.kept H1.out.2.2 (by simp)).cells
        go_wp2_with fail
        rw [show Value.agg #[.int .i64 0, .int .i64 0, .slice fa fl fc] = viewV 0 0 (.slice fa fl fc) from rfl]
        have hrd := H.out.1.reads
        rw [← HF.out] at hrd
        have hFl := H.out.2.2.2.2.1.lf
        have hbl8 : bl ≤ 8 ∧ p + bl ≤ n ∧ (p < n → 1 ≤ bl) := by rw [HBL.out]; exact btc_len hAl hpn
        refine (try_any 0 0 _ F p TT _ (btc A p) w2 (hrd.kept H1.out.2.2) H1.out.1 (by omega) (by have := (btc_len hAl hpn).1; omega) (by unfold I64; omega) (by unfold I64; omega)).mono ?_
        rintro e w3 ⟨av, aps, rfl, heo, hmap⟩
        rw [show viewV 0 0 (.slice fa fl fc) = .agg #[.int .i64 0, .int .i64 0, .slice fa fl fc] from rfl]
        obtain ⟨ta, tc, hav⟩ := row_shape heo.row
        subst hav
        obtain ⟨tl, htl⟩ : ∃ tl, tl = aps.length := ⟨_, rfl⟩
        have hra := heo.reads
        rw [hmap] at hra
        rw [← htl] at hra ⊢
        clear b0 b1 b2 b3 f0 f1 f2
        by_cases hk : k < p
        · obtain ⟨Hh, hT, hh1, hh2⟩ := H.out.2.2.2.2.1.no hpn hk
          rw [← HTT.out] at hT
          rw [hT]
          rw [show fitV ⟨false, Hh, 0, []⟩ (.slice ta tl tc) = .agg #[.bool false, .int .i64 Hh, .int .i64 0, .slice ta tl tc] from rfl]
          have HKN := hid_mk (H.out.2.2.2.2.2.no hn39 (by omega) hh1 (by omega))
          obtain ⟨nn, hnn⟩ : ∃ nn, nn = heardN ((p : Int) + 1) mt false Hh n := ⟨_, rfl⟩
          obtain ⟨mm, hmm⟩ : ∃ mm, mm = heardM mt false Hh n := ⟨_, rfl⟩
          rw [← hnn, ← hmm] at HKN
          have HMK := hid_mk (show Meet A (fps.map (·.1)) n k ∧ Knw n k nn mm (turn + 1) from ⟨by rw [← HF.out]; exact H.out.2.2.2.2.1, HKN.out⟩)
          have hkn := H.out.2.2.2.2.1.kn
          obtain ⟨q1, q2, q3, q4, q5⟩ := HKN.out
          have q5' : turn + 1 ≤ 2 * n + 1 := by split at q5 <;> omega
          clear q5
          have H4 := hid_mk (show EO wF (w3.alloc (.cells #[.bool false, .int .i64 Hh, .int .i64 0, .slice ta tl tc] 56)) (.slice fa fl fc) fps ∧ fl = (fps.map (·.1)).length ∧ VB (w3.alloc (.cells #[.bool false, .int .i64 Hh, .int .i64 0, .slice ta tl tc] 56)) pF 0 0 (.slice fa fl fc) ∧ PB (w3.alloc (.cells #[.bool false, .int .i64 Hh, .int .i64 0, .slice ta tl tc] 56)) pP ((p : Int) + 1) mt ∧ FB (w3.alloc (.cells #[.bool false, .int .i64 Hh, .int .i64 0, .slice ta tl tc] 56)) w3.heap.size false Hh 0 (.slice ta tl tc) from by
            have g := grown_trans H1.out.2.2 (grown_trans heo.gr (World.grownBy_alloc w3 (.cells #[.bool false, .int .i64 Hh, .int .i64 0, .slice ta tl tc] 56) none))
            exact ⟨H.out.1.kept g, by rw [← HF.out]; exact H.out.2.1, H.out.2.2.1.kept g (by simp), H.out.2.2.2.1.kept g (by simp), heap_alloc_new w3 _⟩)
          clear heo hmap htl hra hrd hT HKN H1 H
          go_upto_region 16 with fail
          generalize w3.alloc (.cells #[.bool false, .int .i64 Hh, .int .i64 0, .slice ta tl tc] 56) = w4 at *
          obtain ⟨pT, hpT⟩ : ∃ pT, pT = w3.heap.size := ⟨_, rfl⟩
          rw [← hpT] at H4 ⊢
          clear hpT
          obtain ⟨g0, g1⟩ := H4.out.2.2.2.1.cells
          obtain ⟨e0, e1, e2, e3⟩ := H4.out.2.2.2.2.cells
          have z0 := H4.out.2.2.2.1.frozen (i := 0)
          have z1 := H4.out.2.2.2.1.frozen (i := 1)
          have HH := hid_mk (heard_any ((p : Int) + 1) mt false Hh n (by unfold J64; omega) (by unfold J64; omega) (by unfold J64; omega) (by unfold J64; omega) w4)
          rw [← hnn, ← hmm, show peerV ((p : Int) + 1) mt = .agg #[.int .i64 ((p : Int) + 1), .int .i64 mt] from rfl, show peerV nn mm = .agg #[.int .i64 nn, .int .i64 mm] from rfl] at HH
          clear hnn hmm
          go_wp2_with fail
          refine HH.out.mono ?_
          rintro e w8 ⟨rfl, hg⟩
          have H8 := hid_mk (show EO wF w8 (.slice fa fl fc) fps ∧ VB w8 pF 0 0 (.slice fa fl fc) ∧ PB w8 pP ((p : Int) + 1) mt from
            ⟨H4.out.1.kept hg, H4.out.2.2.1.kept hg (by simp), H4.out.2.2.2.1.kept hg (by simp)⟩)
          have HL := hid_mk H4.out.2.1
          clear hg HH g0 g1 e0 e1 e2 e3 z0 z1 H4
          obtain ⟨g0, g1⟩ := H8.out.2.2.cells
          have z0 := H8.out.2.2.frozen (i := 0)
          have z1 := H8.out.2.2.frozen (i := 1)
          obtain ⟨p1, p2⟩ := H8.out.2.2.put nn mm
          have HN := hid_mk (show EO wF ((w8.setCell ⟨pP, 0, none⟩ (.int .i64 nn)).setCell ⟨pP, 1, none⟩ (.int .i64 mm)) (.slice fa fl fc) fps ∧ fl = (fps.map (·.1)).length ∧ VB ((w8.setCell ⟨pP, 0, none⟩ (.int .i64 nn)).setCell ⟨pP, 1, none⟩ (.int .i64 mm)) pF 0 0 (.slice fa fl fc) ∧ PB ((w8.setCell ⟨pP, 0, none⟩ (.int .i64 nn)).setCell ⟨pP, 1, none⟩ (.int .i64 mm)) pP nn mm from
            ⟨H8.out.1.but H8.out.2.2 (by decide) (by decide) (by have := HP.out; omega) p2, HL.out, H8.out.2.1.kept p2 (by simp; have := HP.out; omega), p1⟩)
          clear p1 p2 H8
          go_wp2_with fail
          go_roundw
          case rel => exact ⟨turn + 1, nn, mm, k, fa, fl, fc, fps, by first | rfl | (congr 1; done) | (congr 1; omega), by omega, by omega, ⟨by omega, by omega, by omega, by omega⟩, hid_mk ⟨HN.out.1, HN.out.2.1, HN.out.2.2.1, HN.out.2.2.2, HMK.out.1, HMK.out.2⟩⟩
          case measure => simp [intOf]; omega
        · obtain ⟨cut, add, F', k', hT, hME, hMk, hcase⟩ := H.out.2.2.2.2.1.fit (p := p) (by omega)
          obtain ⟨M, hMM⟩ : ∃ M, M = p + (btc A p).length := ⟨_, rfl⟩
          have hM3 : p ≤ M ∧ M ≤ n ∧ (p < n → p + 1 ≤ M) := by have := btc_len hAl hpn; omega
          rw [← HTT.out, ← hMM] at hT
          rw [← hMM] at hMk
          clear hMM
          rw [hT] at hra ⊢
          rw [show fitV ⟨true, (M : Int), cut, add⟩ (.slice ta tl tc) = .agg #[.bool true, .int .i64 (M : Int), .int .i64 cut, .slice ta tl tc] from rfl]
          simp only at hra
          have HKN := hid_mk (H.out.2.2.2.2.2.yes (k' := k') (M := M) hn39 hm (by omega) hMk (by omega) (by omega))
          obtain ⟨nn, hnn⟩ : ∃ nn, nn = heardN ((p : Int) + 1) mt true (M : Int) n := ⟨_, rfl⟩
          obtain ⟨mm, hmm⟩ : ∃ mm, mm = heardM mt true (M : Int) n := ⟨_, rfl⟩
          rw [← hnn, ← hmm] at HKN
          have HME := hid_mk hME
          have hkn := hME.kn
          obtain ⟨q1, q2, q3, q4, q5⟩ := HKN.out
          have q5' : turn + 1 ≤ 2 * n + 1 := by split at q5 <;> omega
          clear q5
          have H4 := hid_mk (show EO wF (w3.alloc (.cells #[.bool true, .int .i64 (M : Int), .int .i64 cut, .slice ta tl tc] 56)) (.slice fa fl fc) fps ∧ VB (w3.alloc (.cells #[.bool true, .int .i64 (M : Int), .int .i64 cut, .slice ta tl tc] 56)) pF 0 0 (.slice fa fl fc) ∧ PB (w3.alloc (.cells #[.bool true, .int .i64 (M : Int), .int .i64 cut, .slice ta tl tc] 56)) pP ((p : Int) + 1) mt ∧ FB (w3.alloc (.cells #[.bool true, .int .i64 (M : Int), .int .i64 cut, .slice ta tl tc] 56)) w3.heap.size true (M : Int) cut (.slice ta tl tc) ∧ EntsR (w3.alloc (.cells #[.bool true, .int .i64 (M : Int), .int .i64 cut, .slice ta tl tc] 56)) (.slice ta tl tc) add ∧ EntsR (w3.alloc (.cells #[.bool true, .int .i64 (M : Int), .int .i64 cut, .slice ta tl tc] 56)) (.slice fa fl fc) F from by
            have ga := World.grownBy_alloc w3 (.cells #[.bool true, .int .i64 (M : Int), .int .i64 cut, .slice ta tl tc] 56) none
            have g := grown_trans H1.out.2.2 (grown_trans heo.gr ga)
            exact ⟨H.out.1.kept g, H.out.2.2.1.kept g (by simp), H.out.2.2.2.1.kept g (by simp), heap_alloc_new w3 _, hra.kept ga, hrd.kept g⟩)
          have HPT := hid_mk (show pP < w3.heap.size from Nat.lt_of_lt_of_le H.out.2.2.2.1.lt (grown_trans H1.out.2.2 heo.gr).size)
          have HR := hid_mk (show rightV 0 0 F = true from rightV_go H.out.2.2.2.2.1.gf (by omega))
          clear heo hmap htl hra hrd hT H1 H hME
          go_upto_region 16 with fail
          generalize w3.alloc (.cells #[.bool true, .int .i64 (M : Int), .int .i64 cut, .slice ta tl tc] 56) = w4 at *
          obtain ⟨pT, hpT⟩ : ∃ pT, pT = w3.heap.size := ⟨_, rfl⟩
          rw [← hpT] at H4 HPT ⊢
          clear hpT
          obtain ⟨e0, e1, e2, e3⟩ := H4.out.2.2.2.1.cells
          obtain ⟨f0, f1, f2⟩ := H4.out.2.1.cells
          go_wp2_with fail
          rw [show Value.agg #[.int .i64 0, .int .i64 0, .slice fa fl fc] = viewV 0 0 (.slice fa fl fc) from rfl]
          rcases hcase with ⟨hc0, hci, hF', hlen, hgo⟩ | ⟨hc0, hF', hlen, hgo⟩
          · refine (do_cut 0 0 _ F true _ cut _ add w4 H4.out.2.2.2.2.2 H4.out.2.2.2.2.1 HR.out hc0 hci hlen hgo).mono ?_
            rintro e w5 ⟨dv, dps, rfl, heo, hmap⟩
            obtain ⟨da, dc, hdv⟩ := row_shape heo.row
            subst hdv
            obtain ⟨dl, hdl⟩ : ∃ dl, dl = dps.length := ⟨_, rfl⟩
            rw [← hdl] at heo ⊢
            rw [show viewV 0 0 (.slice da dl dc) = .agg #[.int .i64 0, .int .i64 0, .slice da dl dc] from rfl]
            have H5 := hid_mk (show EO wF w5 (.slice da dl dc) dps ∧ VB w5 pF 0 0 (.slice fa fl fc) ∧ PB w5 pP ((p : Int) + 1) mt ∧ FB w5 pT true (M : Int) cut (.slice ta tl tc) from by
              obtain ⟨x1, x2, x3, x4, x5, x6⟩ := H4.out
              exact ⟨heo.base x1.gr, x2.kept heo.gr (by simp), x3.kept heo.gr (by simp), x4.kept heo.gr (by simp)⟩)
            have HDM := hid_mk (show dps.map (·.1) = F' ∧ dl = (dps.map (·.1)).length from ⟨by rw [hmap, hF'], by rw [hdl, List.length_map]⟩)
            clear heo hmap hdl e0 e1 e2 e3 f0 f1 f2
            obtain ⟨f0, f1, f2⟩ := H5.out.2.1.cells
            have y0 := H5.out.2.1.frozen (i := 0)
            have y1 := H5.out.2.1.frozen (i := 1)
            have y2 := H5.out.2.1.frozen (i := 2)
            obtain ⟨p1, p2⟩ := H5.out.2.1.put 0 0 (.slice da dl dc)
            have H6 := hid_mk (show EO wF (((w5.setCell ⟨pF, 0, none⟩ (.int .i64 0)).setCell ⟨pF, 1, none⟩ (.int .i64 0)).setCell ⟨pF, 2, none⟩ (.slice da dl dc)) (.slice da dl dc) dps ∧ dl = (dps.map (·.1)).length ∧ VB (((w5.setCell ⟨pF, 0, none⟩ (.int .i64 0)).setCell ⟨pF, 1, none⟩ (.int .i64 0)).setCell ⟨pF, 2, none⟩ (.slice da dl dc)) pF 0 0 (.slice da dl dc) ∧ PB (((w5.setCell ⟨pF, 0, none⟩ (.int .i64 0)).setCell ⟨pF, 1, none⟩ (.int .i64 0)).setCell ⟨pF, 2, none⟩ (.slice da dl dc)) pP ((p : Int) + 1) mt ∧ FB (((w5.setCell ⟨pF, 0, none⟩ (.int .i64 0)).setCell ⟨pF, 1, none⟩ (.int .i64 0)).setCell ⟨pF, 2, none⟩ (.slice da dl dc)) pT true (M : Int) cut (.slice ta tl tc) from by
              have hpp := HP.out
              have hpt := HPT.out
              exact ⟨H5.out.1.but H5.out.2.1 (by decide) (by decide) hpp.1 p2, HDM.out.2, p1, H5.out.2.2.1.kept p2 (by simp; omega), H5.out.2.2.2.kept p2 (by simp; omega)⟩)
            clear p1 p2 H5
            go_upto_region 18 with fail
            clear f0 f1 f2 y0 y1 y2
            generalize ((w5.setCell ⟨pF, 0, none⟩ (.int .i64 0)).setCell ⟨pF, 1, none⟩ (.int .i64 0)).setCell ⟨pF, 2, none⟩ (.slice da dl dc) = w6 at *
            have HMK := hid_mk (show Meet A (dps.map (·.1)) n k' ∧ Knw n k' nn mm (turn + 1) from ⟨by rw [HDM.out.1]; exact HME.out, HKN.out⟩)
            have hdl100 : dl ≤ 100 := by have h1 := HMK.out.1.lf; have h2 := HDM.out.2; omega
            obtain ⟨g0, g1⟩ := H6.out.2.2.2.1.cells
            obtain ⟨e0, e1, e2, e3⟩ := H6.out.2.2.2.2.cells
            have z0 := H6.out.2.2.2.1.frozen (i := 0)
            have z1 := H6.out.2.2.2.1.frozen (i := 1)
            have HH := hid_mk (heard_any ((p : Int) + 1) mt true (M : Int) n (by unfold J64; omega) (by unfold J64; omega) (by unfold J64; omega) (by unfold J64; omega) w6)
            rw [← hnn, ← hmm, show peerV ((p : Int) + 1) mt = .agg #[.int .i64 ((p : Int) + 1), .int .i64 mt] from rfl, show peerV nn mm = .agg #[.int .i64 nn, .int .i64 mm] from rfl] at HH
            clear hnn hmm
            go_wp2_with fail
            refine HH.out.mono ?_
            rintro e w8 ⟨rfl, hg⟩
            have H8 := hid_mk (show EO wF w8 (.slice da dl dc) dps ∧ VB w8 pF 0 0 (.slice da dl dc) ∧ PB w8 pP ((p : Int) + 1) mt from
              ⟨H6.out.1.kept hg, H6.out.2.2.1.kept hg (by simp), H6.out.2.2.2.1.kept hg (by simp)⟩)
            have HL := hid_mk H6.out.2.1
            clear hg HH g0 g1 e0 e1 e2 e3 z0 z1 H6
            obtain ⟨g0, g1⟩ := H8.out.2.2.cells
            have z0 := H8.out.2.2.frozen (i := 0)
            have z1 := H8.out.2.2.frozen (i := 1)
            obtain ⟨p1, p2⟩ := H8.out.2.2.put nn mm
            have HN := hid_mk (show EO wF ((w8.setCell ⟨pP, 0, none⟩ (.int .i64 nn)).setCell ⟨pP, 1, none⟩ (.int .i64 mm)) (.slice da dl dc) dps ∧ dl = (dps.map (·.1)).length ∧ VB ((w8.setCell ⟨pP, 0, none⟩ (.int .i64 nn)).setCell ⟨pP, 1, none⟩ (.int .i64 mm)) pF 0 0 (.slice da dl dc) ∧ PB ((w8.setCell ⟨pP, 0, none⟩ (.int .i64 nn)).setCell ⟨pP, 1, none⟩ (.int .i64 mm)) pP nn mm from
              ⟨H8.out.1.but H8.out.2.2 (by decide) (by decide) (by have := HP.out; omega) p2, HL.out, H8.out.2.1.kept p2 (by simp; have := HP.out; omega), p1⟩)
            clear p1 p2 H8
            go_wp2_with fail
            go_roundw
            case rel => exact ⟨turn + 1, nn, mm, k', da, dl, dc, dps, by first | rfl | (congr 1; done) | (congr 1; omega), by omega, by omega, ⟨by omega, by omega, by omega, by omega⟩, hid_mk ⟨HN.out.1, HN.out.2.1, HN.out.2.2.1, HN.out.2.2.2, HMK.out.1, HMK.out.2⟩⟩
            case measure => simp [intOf]; omega
          · subst hc0
            refine (do_add 0 0 _ F true _ _ add w4 H4.out.2.2.2.2.2 H4.out.2.2.2.2.1 HR.out hlen hgo).mono ?_
            rintro e w5 ⟨dv, dps, rfl, heo, hmap⟩
            obtain ⟨da, dc, hdv⟩ := row_shape heo.row
            subst hdv
            obtain ⟨dl, hdl⟩ : ∃ dl, dl = dps.length := ⟨_, rfl⟩
            rw [← hdl] at heo ⊢
            rw [show viewV 0 0 (.slice da dl dc) = .agg #[.int .i64 0, .int .i64 0, .slice da dl dc] from rfl]
            have H5 := hid_mk (show EO wF w5 (.slice da dl dc) dps ∧ VB w5 pF 0 0 (.slice fa fl fc) ∧ PB w5 pP ((p : Int) + 1) mt ∧ FB w5 pT true (M : Int) 0 (.slice ta tl tc) from by
              obtain ⟨x1, x2, x3, x4, x5, x6⟩ := H4.out
              exact ⟨heo.base x1.gr, x2.kept heo.gr (by simp), x3.kept heo.gr (by simp), x4.kept heo.gr (by simp)⟩)
            have HDM := hid_mk (show dps.map (·.1) = F' ∧ dl = (dps.map (·.1)).length from ⟨by rw [hmap, hF'], by rw [hdl, List.length_map]⟩)
            clear heo hmap hdl e0 e1 e2 e3 f0 f1 f2
            obtain ⟨f0, f1, f2⟩ := H5.out.2.1.cells
            have y0 := H5.out.2.1.frozen (i := 0)
            have y1 := H5.out.2.1.frozen (i := 1)
            have y2 := H5.out.2.1.frozen (i := 2)
            obtain ⟨p1, p2⟩ := H5.out.2.1.put 0 0 (.slice da dl dc)
            have H6 := hid_mk (show EO wF (((w5.setCell ⟨pF, 0, none⟩ (.int .i64 0)).setCell ⟨pF, 1, none⟩ (.int .i64 0)).setCell ⟨pF, 2, none⟩ (.slice da dl dc)) (.slice da dl dc) dps ∧ dl = (dps.map (·.1)).length ∧ VB (((w5.setCell ⟨pF, 0, none⟩ (.int .i64 0)).setCell ⟨pF, 1, none⟩ (.int .i64 0)).setCell ⟨pF, 2, none⟩ (.slice da dl dc)) pF 0 0 (.slice da dl dc) ∧ PB (((w5.setCell ⟨pF, 0, none⟩ (.int .i64 0)).setCell ⟨pF, 1, none⟩ (.int .i64 0)).setCell ⟨pF, 2, none⟩ (.slice da dl dc)) pP ((p : Int) + 1) mt ∧ FB (((w5.setCell ⟨pF, 0, none⟩ (.int .i64 0)).setCell ⟨pF, 1, none⟩ (.int .i64 0)).setCell ⟨pF, 2, none⟩ (.slice da dl dc)) pT true (M : Int) 0 (.slice ta tl tc) from by
              have hpp := HP.out
              have hpt := HPT.out
              exact ⟨H5.out.1.but H5.out.2.1 (by decide) (by decide) hpp.1 p2, HDM.out.2, p1, H5.out.2.2.1.kept p2 (by simp; omega), H5.out.2.2.2.kept p2 (by simp; omega)⟩)
            clear p1 p2 H5
            go_upto_region 18 with fail
            clear f0 f1 f2 y0 y1 y2
            generalize ((w5.setCell ⟨pF, 0, none⟩ (.int .i64 0)).setCell ⟨pF, 1, none⟩ (.int .i64 0)).setCell ⟨pF, 2, none⟩ (.slice da dl dc) = w6 at *
            have HMK := hid_mk (show Meet A (dps.map (·.1)) n k' ∧ Knw n k' nn mm (turn + 1) from ⟨by rw [HDM.out.1]; exact HME.out, HKN.out⟩)
            have hdl100 : dl ≤ 100 := by have h1 := HMK.out.1.lf; have h2 := HDM.out.2; omega
            obtain ⟨g0, g1⟩ := H6.out.2.2.2.1.cells
            obtain ⟨e0, e1, e2, e3⟩ := H6.out.2.2.2.2.cells
            have z0 := H6.out.2.2.2.1.frozen (i := 0)
            have z1 := H6.out.2.2.2.1.frozen (i := 1)
            have HH := hid_mk (heard_any ((p : Int) + 1) mt true (M : Int) n (by unfold J64; omega) (by unfold J64; omega) (by unfold J64; omega) (by unfold J64; omega) w6)
            rw [← hnn, ← hmm, show peerV ((p : Int) + 1) mt = .agg #[.int .i64 ((p : Int) + 1), .int .i64 mt] from rfl, show peerV nn mm = .agg #[.int .i64 nn, .int .i64 mm] from rfl] at HH
            clear hnn hmm
            go_wp2_with fail
            refine HH.out.mono ?_
            rintro e w8 ⟨rfl, hg⟩
            have H8 := hid_mk (show EO wF w8 (.slice da dl dc) dps ∧ VB w8 pF 0 0 (.slice da dl dc) ∧ PB w8 pP ((p : Int) + 1) mt from
              ⟨H6.out.1.kept hg, H6.out.2.2.1.kept hg (by simp), H6.out.2.2.2.1.kept hg (by simp)⟩)
            have HL := hid_mk H6.out.2.1
            clear hg HH g0 g1 e0 e1 e2 e3 z0 z1 H6
            obtain ⟨g0, g1⟩ := H8.out.2.2.cells
            have z0 := H8.out.2.2.frozen (i := 0)
            have z1 := H8.out.2.2.frozen (i := 1)
            obtain ⟨p1, p2⟩ := H8.out.2.2.put nn mm
            have HN := hid_mk (show EO wF ((w8.setCell ⟨pP, 0, none⟩ (.int .i64 nn)).setCell ⟨pP, 1, none⟩ (.int .i64 mm)) (.slice da dl dc) dps ∧ dl = (dps.map (·.1)).length ∧ VB ((w8.setCell ⟨pP, 0, none⟩ (.int .i64 nn)).setCell ⟨pP, 1, none⟩ (.int .i64 mm)) pF 0 0 (.slice da dl dc) ∧ PB ((w8.setCell ⟨pP, 0, none⟩ (.int .i64 nn)).setCell ⟨pP, 1, none⟩ (.int .i64 mm)) pP nn mm from
              ⟨H8.out.1.but H8.out.2.2 (by decide) (by decide) (by have := HP.out; omega) p2, HL.out, H8.out.2.1.kept p2 (by simp; have := HP.out; omega), p1⟩)
            clear p1 p2 H8
            go_wp2_with fail
            go_roundw
            case rel => exact ⟨turn + 1, nn, mm, k', da, dl, dc, dps, by first | rfl | (congr 1; done) | (congr 1; omega), by omega, by omega, ⟨by omega, by omega, by omega, by omega⟩, hid_mk ⟨HN.out.1, HN.out.2.1, HN.out.2.2.1, HN.out.2.2.2, HMK.out.1, HMK.out.2⟩⟩
            case measure => simp [intOf]; omega
end Go.Proofs.Ytinpcpojadcegaa.W
