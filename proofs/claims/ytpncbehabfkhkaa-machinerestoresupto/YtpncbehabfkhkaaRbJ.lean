/- Same: does a machine stand as one of the document's? -/
import Derived.Test.YtpncbehabfkhkaaRbI
import Derived.Test.YtpncbehabfkhkaaNaX
namespace Go.Proofs.Ytpncbehabfkhkaa.W
open Go.RowKit Go.Maps Go.WideMaps Go.WideElems
set_option linter.unusedVariables false
set_option linter.unusedSimpArgs false
set_option maxRecDepth 100000

theorem info3' : (Try.prog.info? 3).map (fun i => (i.zero, i.size, i.bytes)) = some (some (Value.int .i64 0), 1, 8) := by kernel_rfl
theorem wp_int {w W : World} {tv : Value} {xs : List Value} (h : W.ownsRow w.heap.size 3 1 tv xs.length xs) (hg : w.grownBy W none) (z : Int) (k : Nat) (hk : k = xs.length) (hl : k ≤ 1000000000) {ops : Array Oper} {rest : List Oper} {o : Oper} {a : Act} {Q : Exit → Act → World → Prop} (hgd : o.guard = none) (s y : Operand)
    (ho : o.op = .call { callee := .builtin .append, args := #[s, y], argTypes := #[59, 59] }) (hs : a.eval s = tv) (hy : a.eval y = .slice (some ⟨W.heap.size, 0, none⟩) 1 1)
    (hc : ∀ a' c' W', Hid (W'.ownsRow w.heap.size 3 1 (.slice a' (k + 1) c') (xs ++ [Value.int .i64 z]).length (xs ++ [Value.int .i64 z]) ∧ w.grownBy W' none) → wpList Try.prog ops Q rest (a.put o.dst (.slice a' (k + 1) c')) W') :
    wpList Try.prog ops Q (o :: rest) a (W.alloc (.cells #[.int .i64 z] 3)) := by
  subst hk
  obtain ⟨i0, hi, hz0, hz1, hz2⟩ := info_parts info3'
  have hga := World.grownBy_alloc W (.cells #[.int .i64 z] 3) none
  have h' := owns_kept h hga (fun _ _ _ => by simp)
  refine wpList_append_own_at _ hgd s y 59 ho w.heap.size 3 i0 _ 1 8 Try.underlying59 hi hz0 hz1 hz2 rfl (by decide) tv xs.length xs hs h' ⟨W.heap.size, 0, none⟩ 1 1 [.int .i64 z] hy rfl (cell_one_new _ _ _) (by simp [Value.oneCell']) (by unfold maxLen; omega) (by omega) (by have := hg.size; simp; omega) ?_
  intro v' w' hown hgr _ _
  obtain ⟨a', c', rfl⟩ := row_shape hown
  refine hc a' c' w' (hid_mk ⟨?_, grown_row (grown_trans hg hga) h' hgr⟩)
  rw [List.length_append]
  exact hown
theorem ints_of_row {W : World} {B : Nat} {v : Value} {l : List Int} (h : W.ownsRow B 3 1 v l.length (l.map fun z => Value.int .i64 z)) : IntsR W v l := by
  by_cases h0 : 0 < l.length
  · obtain ⟨g, cap, hv, hc, _, hx⟩ := row_get h h0
    refine .inr ⟨g, 0, cap, hv, hc, fun j x hj => ?_⟩
    have := hx j (.int .i64 x) (by simp [hj])
    simpa using this
  · obtain rfl : l = [] := by cases l with | nil => rfl | cons => simp at h0
    rcases h.2 with ⟨hv, _⟩ | ⟨g, cap, cur, hv, _⟩
    · exact .inl ⟨rfl, none, 0, by simpa using hv, fun _ => rfl⟩
    · exact .inl ⟨rfl, some ⟨g, 0, none⟩, cap, by simpa using hv, fun h => by cases h⟩
set_option maxHeartbeats 4000000 in
theorem same_any {w W : World} {Zm Zr : Nat → Prop} {bm br : Nat} {m : Mach} {r : Rf} {i : Nat} (h : TW w W Zm Zr bm br m r i) (hi : i ≤ 1048577) :
    Calls Try.prog 22 #[.pointer (some ⟨bm, 0, none⟩), .pointer (some ⟨br, 0, none⟩)] W fun e W' => e = .returned (.bool true) ∧ W.grownBy W' none := by
  have HT := hid_mk h
  obtain ⟨sa, sc, hsv⟩ := row_shape h.pr.isR.ses
  have HSV := hid_mk hsv
  clear h hsv
  go_enter Try.func22, Try.ntmps22
  have hrs : r.ss.length ≤ 16 := by
    have : r.ss.length = r.ab.ss.length := by simp [Rf.ab]
    rw [this, HT.out.eq]; exact HT.out.wf.few
  go_wp2_with fail
  go_loopg [5, 6] r.ss.length (fun g lv iv X => ∃ j : Nat, j ≤ r.ss.length ∧ g = r.ss.length - j ∧ iv = .int .i64 j ∧ ∃ a c, lv = .slice a j c ∧ Hid (X.ownsRow W.heap.size 3 1 (.slice a j c) ((r.ss.take j).map fun s => Value.int .i64 (s.n : Int)).length ((r.ss.take j).map fun s => Value.int .i64 (s.n : Int)) ∧ W.grownBy X none))
  case atStart => exact ⟨0, Nat.zero_le _, rfl, rfl, none, 0, rfl, hid_mk ⟨by simpa using World.ownsRow_nil _ _ _ _, grown_refl _ _⟩⟩
  case round =>
    obtain ⟨j, hj, hgj, rfl, a, c, rfl, H⟩ := hrel
    have HIW := hid_mk (HT.out.pr.isR.kept H.out.2)
    have c4 := HIW.out.cells.2.2.2.2.1
    rw [HSV.out] at c4
    by_cases hlt : j < r.ss.length
    · have hlt' : (j : Int) < (r.ss.length : Int) := by omega
      obtain ⟨g, cap, cur, _, _, _, hgg, _, _, hix, hcc⟩ := HIW.out.at j hlt
      rw [HSV.out] at hix
      have HTK := hid_mk (show (r.ss.take (j + 1)).map (fun s => Value.int .i64 (s.n : Int)) = (r.ss.take j).map (fun s => Value.int .i64 (s.n : Int)) ++ [.int .i64 (r.ss[j].n : Int)] by
        rw [List.take_succ_eq_append_getElem hlt, List.map_append]; rfl)
      have HLN := hid_mk (show j = ((r.ss.take j).map fun s => Value.int .i64 (s.n : Int)).length by simp; omega)
      have d0 := hcc 0 (by omega)
      rw [Nat.add_zero] at d0
      simp only [Sn.cs, List.getElem?_cons_zero] at d0
      generalize r.ss[j] = s at *
      generalize j * 4 = off at *
      clear hcc hgg
      go_wp2_with (at_builtin; refine wp_int H.out.1 H.out.2 (s.n : Int) j HLN.out (by omega) rfl (.tmp 18) (.tmp 27) rfl rfl rfl ?_; intro a' c' W' H')
      go_roundg (r.ss.length - (j + 1))
      case measure => omega
      case rel => exact ⟨j + 1, by omega, rfl, by go_num, a', c', rfl, hid_mk (by rw [HTK.out]; exact H'.out)⟩
    · have hnlt : ¬ (j : Int) < (r.ss.length : Int) := by omega
      obtain rfl : j = r.ss.length := by omega
      have HID := hid_mk (show IntsR wr (.slice a r.ss.length c) (r.ss.map fun s => (s.n : Int)) ∧ W.grownBy wr none by
        refine ⟨ints_of_row (B := W.heap.size) ?_, H.out.2⟩
        have h1 := H.out.1
        rw [List.take_length] at h1
        simpa [Function.comp_def] using h1)
      clear H
      go_upto_region 6 with fail
      obtain ⟨ra, rc, hrv⟩ := row_shape HT.out.pr.isR.row
      have HC : ∀ W0, wr.grownBy W0 none → W0.cell? ⟨br, 2, none⟩ = some (.int .i64 r.st) ∧ W0.cell? ⟨br, 3, none⟩ = some (.slice ra r.rs.length rc) := fun W0 hW => by
        have := (HIW.out.kept hW).cells
        rw [hrv] at this
        exact ⟨this.2.2.1, this.2.2.2.1⟩
      have HRVV := hid_mk hrv
      clear hrv c4
      have hrr : r.rs.length = m.ab.rs.length := by
        have : r.rs.length = r.ab.rs.length := by simp [Rf.ab]
        rw [this, HT.out.eq]
      have hr20 : r.rs.length ≤ 1048577 := by
        have h1 := HT.out.nx.1
        rw [hrr]; omega
      have HRA := hid_mk (show readA m.ab (r.st : Int) ((r.rs.length : Int) + 1) = (m.ab.rs, 0) by
        have h1 : r.st = m.ab.st := congrArg Ab.st HT.out.eq
        unfold readA
        rw [if_neg (by omega), if_neg (by omega), h1, show ((m.ab.st : Int) - (m.ab.st : Int)).toNat = 0 by omega, List.drop_zero, List.take_of_length_le (by omega)])
      have HRD : Hid (∀ W0, wr.grownBy W0 none → Calls Try.prog 27 #[.pointer (some ⟨bm, 0, none⟩), .int .i64 r.st, .int .i64 ((r.rs.length : Int) + 1)] W0 (RdP W0 (m.ab.rs, 0))) := hid_mk (fun W0 hW => by
        have h1 := read_any ((HT.out.pm.isM.kept HID.out.2).kept hW) (r.st : Int) ((r.rs.length : Int) + 1) (by rw [ab_rs, ← hrr]; omega)
        rw [HRA.out] at h1
        exact h1)
      have HRR := hid_mk hrr
      have hwr : IntKind.i64.wrap ((r.rs.length : Int) + 1) = (r.rs.length : Int) + 1 := by rw [IntKind.wrap_i64]; omega
      clear hrr
      refine wp_region_mix [(0, true), (1, true), (2, true), (3, true), (4, true), (5, true), (6, true), (7, true), (8, true), (9, true), (10, true), (11, false), (12, true), (13, true), (14, true), (15, true), (16, true)] (at0 wr (fun W0 => wr.grownBy W0 none)) (by kernel_rfl) (by kernel_rfl) rfl (by kernel_rfl) (shut_at0 (fun m => grown_drewN _ m _)) ⟨1, rfl⟩ ?_
      repeat (refine mix_rd1 rfl rfl (fun K hK => ?_); apply Exists.intro; refine ⟨fun W0 hW => ?_, ?_⟩; (obtain ⟨f1, f2⟩ := HC W0 hW; go_simp; rfl); (go_simp; refine hK _ _ ?_; clear hK K))
      refine mix_call rfl rfl 27 #[.pointer (some ⟨bm, 0, none⟩), .int .i64 r.st, .int .i64 ((r.rs.length : Int) + 1)] (fun W0 => by go_simp) ?_
      rintro W0 ⟨m6, rfl⟩
      refine (HRD.out _ (grown_drewN _ m6 none)).mono ?_
      rintro e w8 ⟨xa, xc, ps, rfl, hps, hpp, hfr⟩
      obtain ⟨n, hn⟩ : ∃ n, n = ps.length := ⟨_, rfl⟩
      rw [← hn] at hpp ⊢
      have H9 := hid_mk (show n = ps.length ∧ ps.map Prod.snd = m.ab.rs ∧ Parts w8 (.slice xa n xc) ps ∧ wr.grownBy w8 none by
        have hg := grown_trans (grown_drewN wr m6 none) hpp.gr
        exact ⟨hn, hps, hpp.parts, hg⟩)
      clear hn hps hpp hfr HRD
      refine ⟨_, rfl, at0 w8 (fun W0 => wr.grownBy W0 none), ⟨0, rfl⟩, shut_at0 (fun mm => grown_trans H9.out.2.2.2 (grown_drewN _ mm _)), fun _ h => h, ?_⟩
      repeat (refine mix_rd1 rfl rfl (fun K hK => ?_); apply Exists.intro; refine ⟨fun W0 hW => ?_, ?_⟩; (go_simp; rfl); (go_simp; refine hK _ _ ?_; clear hK K))
      refine mix_nil ?_
      rintro W0 ⟨m8, rfl⟩
      have H10 := hid_mk (show Parts (w8.drewN m8) (.slice xa n xc) ps ∧ wr.grownBy (w8.drewN m8) none from ⟨H9.out.2.2.1.kept (grown_drewN _ _ none), grown_trans H9.out.2.2.2 (grown_drewN _ _ none)⟩)
      generalize w8.drewN m8 = w9 at *
      go_upto_region 7 with fail
      have HG := hid_mk (show W.grownBy w9 none from grown_trans HID.out.2 H10.out.2)
      have hqn : r.rs.length = n := by
        rw [H9.out.1, HRR.out, ← H9.out.2.1, List.length_map]
      have e1 : r.ap = m.ap := congrArg Ab.ap HT.out.eq
      have e2 : r.st = m.st := congrArg Ab.st HT.out.eq
      have HCX : ∀ W0, w9.grownBy W0 none → W0.cell? ⟨br, 1, none⟩ = some (.int .i64 m.ap) ∧ W0.cell? ⟨br, 2, none⟩ = some (.int .i64 m.st) ∧ W0.cell? ⟨br, 3, none⟩ = some (.slice ra n rc) := fun W0 hW => by
        have hc := (HT.out.pr.isR.kept (grown_trans HG.out hW)).cells
        have h3 := (HC W0 (grown_trans H10.out.2 hW)).2
        rw [hqn] at h3
        rw [e1, e2] at hc
        exact ⟨hc.2.1, hc.2.2.1, h3⟩
      obtain ⟨nx, hnx⟩ : ∃ nx, nx = m.st + m.rs.length := ⟨_, rfl⟩
      have hmr : m.rs.length = r.rs.length := by rw [ab_rs, HRR.out]
      have hmt := HT.out.pm.isM.top.2
      have K28 : Hid (∀ W0, w9.grownBy W0 none → Calls Try.prog 28 #[.pointer (some ⟨bm, 0, none⟩)] W0 fun e w' => e = .returned (.int .i64 m.ap) ∧ ∃ q, w' = W0.drewN q) := hid_mk (fun W0 hW => (applied_any (HT.out.pm.isM.kept (grown_trans HG.out hW))).mono (fun e w' ⟨h1, h2⟩ => ⟨h1, 0, h2⟩))
      have K29 : Hid (∀ W0, w9.grownBy W0 none → Calls Try.prog 29 #[.pointer (some ⟨bm, 0, none⟩)] W0 fun e w' => e = .returned (.int .i64 m.st) ∧ ∃ q, w' = W0.drewN q) := hid_mk (fun W0 hW => (start_any (HT.out.pm.isM.kept (grown_trans HG.out hW))).mono (fun e w' ⟨h1, h2⟩ => ⟨h1, 0, h2⟩))
      have K30 : Hid (∀ W0, w9.grownBy W0 none → Calls Try.prog 30 #[.pointer (some ⟨bm, 0, none⟩)] W0 fun e w' => e = .returned (.int .i64 nx) ∧ ∃ q, w' = W0.drewN q) := hid_mk (fun W0 hW => by
        have h1 := next_any (HT.out.pm.isM.kept (grown_trans HG.out hW)) (by omega)
        rw [← hnx] at h1
        exact h1)
      have K43 : Hid (∀ W0, w9.grownBy W0 none → Calls Try.prog 43 #[.pointer (some ⟨br, 0, none⟩)] W0 fun e w' => e = .returned (.int .i64 nx) ∧ ∃ q, w' = W0.drewN q) := hid_mk (fun W0 hW => by
        have h1 := rnext_any (HT.out.pr.isR.kept (grown_trans HG.out hW)) (by omega) (by omega)
        rw [e2, ← hmr, ← hnx] at h1
        exact h1)
      have K42 : Hid (∀ W0, w9.grownBy W0 none → Calls Try.prog 42 #[.slice xa n xc, .slice ra n rc] W0 fun e w' => e = .returned (.bool true) ∧ ∃ q, w' = W0.drewN q) := hid_mk (fun W0 hW => by
        have hrow := (HT.out.pr.isR.kept (grown_trans HG.out hW)).row
        have hel := (HT.out.pr.isR.kept (grown_trans HG.out hW)).el
        have hp := row_parts hrow (fun p hp => (hel p hp).1)
        rw [HRVV.out, hqn] at hp
        exact lists_same xa ra xc rc n ps r.rs W0 (H10.out.1.kept hW) hp H9.out.1 hqn.symm (by
          rw [H9.out.2.1, ← HT.out.eq]; rfl) (by omega))
      have hms : m.ss.length ≤ 16 := by rw [ab_ss]; exact HT.out.wf.few
      have hids : numsOf m.ss = r.ss.map fun s => (s.n : Int) := by
        have h1 : r.ss = m.ss.map Ses.ab := congrArg Ab.ss HT.out.eq
        rw [h1]
        simp [numsOf, Ses.ab, Function.comp_def]
      have HW2 := hid_mk (show Wf m.ab ∧ nextA m.ab ≤ 1099512676352 from ⟨HT.out.wf, by have := HT.out.nx.2; omega⟩)
      have HSa := hid_mk (fun W' (hg : w9.grownBy W' none) => save_ab (HT.out.pm.isM.kept (grown_trans HG.out hg)) (by omega) hms (ab_lim2 HW2.out.1 (by have := HW2.out.2; omega)))
      have HSb := hid_mk (fun W' (hg : w9.grownBy W' none) => rsave_any (HT.out.pr.isR.kept (grown_trans HG.out hg)) (by omega) (by rw [e1]; have := HT.out.pm.isM.top.1; omega) (by omega) hrs (fun s hs => by
        have h1 : r.ss = m.ab.ss := congrArg Ab.ss HT.out.eq
        rw [h1] at hs
        have h2 := HW2.out.1.ses s hs
        have h3 := HW2.out.1.ap
        have h4 := HW2.out.2
        unfold nextA at h4
        have h5 : m.ab.st ≤ 1099511627775 := hmt
        omega) (fun p hp => by
        have h1 : p.2 ∈ m.ab.rs := by rw [← HT.out.eq]; exact List.mem_map_of_mem hp
        exact HW2.out.1.dat _ h1))
      obtain ⟨L, hL⟩ : ∃ L, L = saveB m.ab := ⟨_, rfl⟩
      rw [HT.out.eq] at HSb
      rw [← hL] at HSa HSb
      have HSS := hid_mk (fun W' (hg : w9.grownBy W' none) => sessions_any (HT.out.pm.isM.kept (grown_trans HG.out hg)) (by omega))
      clear hL hnx hqn e1 e2 hmr hmt hwr HC
      refine wp_region_mix [(0, true), (1, true), (2, true), (3, true), (4, true), (5, true), (6, true), (7, true), (8, true), (9, true), (10, true), (11, true), (12, true), (13, true), (14, true), (15, true), (16, true), (17, true), (18, true), (19, true), (20, true), (21, true), (22, true), (23, true), (24, true), (25, true), (26, true), (27, true), (28, true), (29, true), (30, true), (31, true), (32, true), (33, true), (34, true), (35, true), (36, true), (37, true), (39, true), (38, false), (40, true), (41, true), (42, true), (43, true), (46, true), (44, false), (45, true), (47, false), (48, true), (49, true), (50, true), (51, true)] (at0 w9 (fun W0 => w9.grownBy W0 none)) (by kernel_rfl) (by kernel_rfl) rfl (by kernel_rfl) (shut_at0 (fun mm => grown_drewN _ mm _)) ⟨1, rfl⟩ ?_
      repeat (first
        | (refine mix_rd1 rfl rfl (fun K hK => ?_); apply Exists.intro; refine ⟨fun W0 hW => ?_, ?_⟩; (obtain ⟨f1, f2, f3⟩ := HCX W0 hW; go_simp; rfl); (go_simp; refine hK _ _ ?_; clear hK K))
        | (refine mix_rdcall rfl rfl 28 #[.pointer (some ⟨bm, 0, none⟩)] (.int .i64 m.ap) ?h1 K28.out ?_; case h1 => (intro W0; go_simp; done))
        | (refine mix_rdcall rfl rfl 29 #[.pointer (some ⟨bm, 0, none⟩)] (.int .i64 m.st) ?h1 K29.out ?_; case h1 => (intro W0; go_simp; done))
        | (refine mix_rdcall rfl rfl 30 #[.pointer (some ⟨bm, 0, none⟩)] (.int .i64 nx) ?h1 K30.out ?_; case h1 => (intro W0; go_simp; done))
        | (refine mix_rdcall rfl rfl 43 #[.pointer (some ⟨br, 0, none⟩)] (.int .i64 nx) ?h1 K43.out ?_; case h1 => (intro W0; go_simp; done))
        | (refine mix_rdcall rfl rfl 16 #[.int .i64 0] (.int .i64 0) ?h1 (fun W0 hW => (num_any _ _).mono (fun e w' ⟨h1, h2⟩ => ⟨h1, 0, h2⟩)) ?_; case h1 => (intro W0; go_simp; done))
        | (refine mix_rdcall rfl rfl 42 #[.slice xa n xc, .slice ra n rc] (.bool true) ?h1 K42.out ?_; case h1 => (intro W0; go_simp; done)))
      refine mix_call rfl rfl 31 #[.pointer (some ⟨bm, 0, none⟩)] (fun W => by go_simp) ?_
      rintro W0 ⟨m3, rfl⟩
      refine (HSS.out _ (grown_drewN w9 m3 none)).mono ?_
      rintro e w10 ⟨a5, c5, rfl, hin, hg5⟩
      have H11 := hid_mk (show IntsR w10 (.slice a5 m.ss.length c5) (numsOf m.ss) ∧ w9.grownBy w10 none ∧ IntsR w10 (.slice a r.ss.length c) (numsOf m.ss) by
        have hg := grown_trans (grown_drewN w9 m3 none) hg5
        refine ⟨hin, hg, ?_⟩
        rw [hids]
        exact HID.out.1.kept (grown_trans H10.out.2 hg))
      clear hin hg5
      obtain ⟨sn, hsn⟩ : ∃ sn, sn = m.ss.length := ⟨_, rfl⟩
      have hnl : (numsOf m.ss).length ≤ 140737488355328 := by simp [numsOf]; omega
      rw [← hsn] at H11 ⊢
      clear hsn
      refine ⟨_, rfl, at0 w10 (fun W0 => w10.grownBy W0 none), ⟨0, rfl⟩, shut_at0 (fun mm => grown_drewN _ mm _), fun _ h => grown_trans H11.out.2.1 h, ?_⟩
      repeat (first
        | (refine mix_rd1 rfl rfl (fun K hK => ?_); apply Exists.intro; refine ⟨fun W0 hW => ?_, ?_⟩; (go_simp; rfl); (go_simp; refine hK _ _ ?_; clear hK K))
        | (refine mix_rdcall rfl rfl 44 #[.slice a5 sn c5, .slice a r.ss.length c] (.bool true) ?h1 (fun W0 hW => ints_same _ _ _ W0 (H11.out.1.kept hW) (H11.out.2.2.kept hW) hnl) ?_; case h1 => (intro W0; go_simp; done)))
      refine mix_call rfl rfl 25 #[.pointer (some ⟨bm, 0, none⟩)] (fun W => by go_simp) ?_
      rintro W0 ⟨m4, rfl⟩
      refine (HSa.out _ (grown_trans H11.out.2.1 (grown_drewN w10 m4 none))).mono ?_
      rintro e w11 ⟨v6, rfl, ho6, hg6⟩
      obtain ⟨a6, c6, rfl⟩ := ho6.len
      have H12 := hid_mk (show Byt w11 (.slice a6 L.length c6) L ∧ w10.grownBy w11 none from ⟨ho6.byt, grown_trans (grown_drewN _ _ none) hg6⟩)
      clear ho6 hg6
      refine ⟨_, rfl, at0 w11 (fun W0 => w11.grownBy W0 none), ⟨0, rfl⟩, shut_at0 (fun mm => grown_drewN _ mm _), fun _ h => grown_trans H12.out.2 h, ?_⟩
      have HC6 : ∀ W0, w11.grownBy W0 none → (convert 22 9 (.slice a6 L.length c6)).run Try.prog W0 = .ok (.string ⟨L.toArray⟩) W0 := fun W0 hW => (H12.out.1.kept hW).text
      repeat (refine mix_rd1 rfl rfl (fun K hK => ?_); apply Exists.intro; refine ⟨fun W0 hW => ?_, ?_⟩; (have f6 := HC6 W0 hW; go_simp; rfl); (go_simp; refine hK _ _ ?_; clear hK K))
      refine mix_call rfl rfl 45 #[.pointer (some ⟨br, 0, none⟩)] (fun W => by go_simp) ?_
      rintro W0 ⟨m5, rfl⟩
      refine (HSb.out _ (grown_trans H11.out.2.1 (grown_trans H12.out.2 (grown_drewN w11 m5 none)))).mono ?_
      rintro e w12 ⟨v7, rfl, ho7, hg7⟩
      obtain ⟨a7, c7, rfl⟩ := ho7.len
      have H13 := hid_mk (show Byt w12 (.slice a7 L.length c7) L ∧ w11.grownBy w12 none from ⟨ho7.byt, grown_trans (grown_drewN _ _ none) hg7⟩)
      clear ho7 hg7 HC6
      refine ⟨_, rfl, at0 w12 (fun W0 => w12.grownBy W0 none), ⟨0, rfl⟩, shut_at0 (fun mm => grown_drewN _ mm _), fun _ h => grown_trans H13.out.2 h, ?_⟩
      have HC7 : ∀ W0, w12.grownBy W0 none → (convert 22 9 (.slice a7 L.length c7)).run Try.prog W0 = .ok (.string ⟨L.toArray⟩) W0 := fun W0 hW => (H13.out.1.kept hW).text
      repeat (refine mix_rd1 rfl rfl (fun K hK => ?_); apply Exists.intro; refine ⟨fun W0 hW => ?_, ?_⟩; (have f7 := HC7 W0 hW; go_simp; rfl); (go_simp; refine hK _ _ ?_; clear hK K))
      refine mix_nil ?_
      rintro W9 ⟨m9, rfl⟩
      have HG9 := hid_mk (show W.grownBy (w12.drewN m9) none from grown_trans HG.out (grown_trans H11.out.2.1 (grown_trans H12.out.2 (grown_trans H13.out.2 (grown_drewN _ _ none)))))
      generalize w12.drewN m9 = w13 at *
      go_wp2_with fail
      go_ret
      exact ⟨ret_bool (by simp), HG9.out⟩
end Go.Proofs.Ytpncbehabfkhkaa.W
