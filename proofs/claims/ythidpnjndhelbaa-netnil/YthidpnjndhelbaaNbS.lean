/- NetNil: no net, and one that nobody made. -/
import Derived.Test.YthidpnjndhelbaaNbR
namespace Go.Proofs.Ythidpnjndhelbaa
open Go.RowKit Go.Maps
set_option linter.unusedVariables false
set_option linter.unusedSimpArgs false
set_option maxRecDepth 100000

theorem rd0 {f : FuncId} {args : Array Value} {w : World} {v : Value} (h : Calls Try.prog f args w fun e w' => e = .returned v ∧ w' = w) : Calls Try.prog f args w fun e w' => e = .returned v ∧ ∃ m, w' = w.drewN m :=
  h.mono (fun e w' ⟨h1, h2⟩ => ⟨h1, 0, h2⟩)
def opC (kd k fr tw : Int) (sv iv : Value) : Array Value := #[.int .i64 kd, .int .i64 k, .int .i64 fr, .int .i64 tw, sv, iv]
theorem opC_cells {W : World} {q : Nat} {kd k fr tw : Int} {sv iv : Value} (h : Blk W q (opC kd k fr tw sv iv) 37) : W.cell? ⟨q, 1, none⟩ = some (.int .i64 k) ∧ W.cell? ⟨q, 2, none⟩ = some (.int .i64 fr) ∧ W.cell? ⟨q, 3, none⟩ = some (.int .i64 tw) ∧ W.cell? ⟨q, 4, none⟩ = some sv ∧ W.cell? ⟨q, 5, none⟩ = some iv :=
  ⟨by rw [h.cell]; rfl, by rw [h.cell]; rfl, by rw [h.cell]; rfl, by rw [h.cell]; rfl, by rw [h.cell]; rfl⟩
set_option maxHeartbeats 8000000 in
theorem netNil_walk (kd k fr tw : Int) (sv iv : Value) (bs : List UInt8) (ids : List Int) (w : World) (hs : Byt w sv bs) (hl : bs.length ≤ 140737488355328) (hiv : IntsR w iv ids) : Calls Try.prog 4 #[.agg #[.int .i64 kd, .int .i64 k, .int .i64 fr, .int .i64 tw, sv, iv]] w fun e w' => e = .returned (.bool true) ∧ w.grownBy w' none := by
  obtain ⟨ia, ic, hia⟩ := hiv.len
  clear hiv
  obtain ⟨sa, sc, hsa⟩ := hs.len
  subst hsa
  subst hia
  obtain ⟨iv, hiv⟩ : ∃ iv : Value, iv = .slice ia ids.length ic := ⟨_, rfl⟩
  rw [← hiv]
  clear hiv
  have HY := hid_mk (And.intro hs hl)
  clear hs hl
  have H0 := hid_mk (And.intro (blk_alloc w (opC kd k fr tw (.slice sa bs.length sc) iv) 37) (World.grownBy_alloc w (.cells (opC kd k fr tw (.slice sa bs.length sc) iv) 37) none))
  go_enter Try.func4, Try.ntmps4
  go_wp2_with fail
  rw [show (#[.int .i64 kd, .int .i64 k, .int .i64 fr, .int .i64 tw, .slice sa bs.length sc, iv] : Array Value) = opC kd k fr tw (.slice sa bs.length sc) iv from rfl]
  generalize hw0 : (w.alloc (.cells (opC kd k fr tw (.slice sa bs.length sc) iv) 37)) = w0 at *
  clear hw0
  generalize hq : w.heap.size = q at *
  have HQ := hid_mk hq
  clear hq
  go_loopg [3, 4] 2 (fun g pv ivv W => ∃ (i : Nat) (p : Option Addr), i ≤ 2 ∧ g = 2 - i ∧ ivv = .int .i64 i ∧ pv = .pointer p ∧ Hid (NoN W (.pointer p) ∧ Blk W q (opC kd k fr tw (.slice sa bs.length sc) iv) 37 ∧ w.grownBy W none))
  case atStart => exact ⟨0, none, by omega, rfl, rfl, rfl, hid_mk ⟨.inl rfl, H0.out.1, H0.out.2⟩⟩
  case round =>
    obtain ⟨i, p, hi, hgk, rfl, rfl, H⟩ := hrel
    rename World => W
    clear H0
    by_cases hlt : i < 2
    · have hlt' : (i : Int) < 2 := by omega
      obtain ⟨c1, _, _, _, _⟩ := opC_cells H.out.2.1
      go_wp2_with fail
      refine (look_no H.out.1 k).mono ?_
      rintro e w1 ⟨rfl, hg⟩
      have H1 := hid_mk (And.intro (H.out.1.kept (ga hg (.cells #[.int .i64 0, .int .i64 0, .slice none 0 0] 39))) (And.intro (H.out.2.1.kept (ga hg (.cells #[.int .i64 0, .int .i64 0, .slice none 0 0] 39)) (by simp)) (And.intro (grown_trans H.out.2.2 (ga hg (.cells #[.int .i64 0, .int .i64 0, .slice none 0 0] 39))) (blk_alloc w1 #[.int .i64 0, .int .i64 0, .slice none 0 0] 39))))
      have d1 := (opC_cells H1.out.2.1).1
      clear hg c1
      go_wp2_with fail
      refine (take_no H1.out.1 k).mono ?_
      rintro e w2 ⟨rfl, hg⟩
      have hg' := ga hg (.cells #[.int .i64 0, .int .i64 0, .slice none 0 0] 39)
      have H2 := hid_mk (And.intro (H1.out.1.kept hg') (And.intro (H1.out.2.1.kept hg' (by simp)) (And.intro (grown_trans H1.out.2.2.1 hg') (And.intro (H1.out.2.2.2.kept hg' (by simp)) (blk_alloc w2 #[.int .i64 0, .int .i64 0, .slice none 0 0] 39)))))
      clear hg hg' d1
      go_upto_region 7 with fail
      generalize hw2 : (w2.alloc (.cells #[.int .i64 0, .int .i64 0, .slice none 0 0] 39)) = w3 at *
      clear hw2
      generalize w1.heap.size = q1 at *
      generalize w2.heap.size = q2 at *
      have NN : Hid (∀ W, w3.grownBy W none → NoN W (.pointer p)) := hid_mk (fun W hW => H2.out.1.kept hW)
      have HF : Hid (∀ W, w3.grownBy W none → (W.cell? ⟨q, 1, none⟩ = some (.int .i64 k) ∧ W.cell? ⟨q, 2, none⟩ = some (.int .i64 fr) ∧ W.cell? ⟨q, 3, none⟩ = some (.int .i64 tw) ∧ W.cell? ⟨q, 4, none⟩ = some (.slice sa bs.length sc) ∧ W.cell? ⟨q, 5, none⟩ = some iv) ∧ W.cell? ⟨q1, 2, none⟩ = some (.slice none 0 0) ∧ W.cell? ⟨q2, 2, none⟩ = some (.slice none 0 0)) := hid_mk (fun W hW =>
        ⟨opC_cells (H2.out.2.1.kept hW (by simp)), (blk3 (H2.out.2.2.2.1.kept hW (by simp))).2.2.1, (blk3 (H2.out.2.2.2.2.kept hW (by simp))).2.2.1⟩)
      refine wp_region_mix [(0, true), (1, true), (2, true), (3, true), (4, true), (5, true), (6, true), (7, true), (8, true), (9, true), (10, true), (11, true), (12, true), (13, true), (14, true), (15, true), (16, true), (17, true), (18, true), (19, true), (20, true), (21, true), (22, true), (23, true), (24, true), (25, true), (26, true), (27, true), (28, false), (29, false), (30, true), (31, true), (32, true), (33, true), (34, true), (35, true), (36, true), (37, true), (38, true), (39, true), (40, true), (41, true), (42, true), (43, true), (44, true), (45, true), (46, true), (47, true), (48, true), (49, true), (50, true), (51, true), (52, true), (53, true), (54, true), (55, true), (56, true), (57, true), (58, true), (59, true), (60, true), (61, false), (62, false), (63, true), (64, true), (65, true), (66, true), (67, true), (68, true)] (at0 w3 (fun W => w3.grownBy W none)) (by kernel_rfl) (by kernel_rfl) rfl (by kernel_rfl) (shut_at0 (fun m => grown_drewN _ m none)) ⟨1, rfl⟩ ?_
      repeat (refine mix_rd1 rfl rfl (fun K hK => ?_); apply Exists.intro; refine ⟨fun W hW => ?_, ?_⟩; (obtain ⟨⟨c1, c2, c3, c4, c5⟩, c6, c7⟩ := HF.out W hW; go_simp; rfl); (go_simp; refine hK _ _ ?_; clear hK K))
      have G3 : Hid (w3.grownBy w3 none) := hid_mk (grown_refl _ _)
      refine mix_rdcall rfl rfl 15 #[.pointer p] (.int .i64 0) (fun W => by go_simp) (fun W hW => rd0 (len_no (NN.out W hW))) ?_
      go_simp
      repeat (refine mix_rd1 rfl rfl (fun K hK => ?_); apply Exists.intro; refine ⟨fun W hW => ?_, ?_⟩; (obtain ⟨⟨c1, c2, c3, c4, c5⟩, c6, c7⟩ := HF.out W hW; go_simp; rfl); (go_simp; refine hK _ _ ?_; clear hK K))
      refine mix_rdcall rfl rfl 16 #[.pointer p] (.int .i64 0) (fun W => by go_simp) (fun W hW => rd0 (clear_no (NN.out W hW))) ?_
      go_simp
      repeat (refine mix_rd1 rfl rfl (fun K hK => ?_); apply Exists.intro; refine ⟨fun W hW => ?_, ?_⟩; (obtain ⟨⟨c1, c2, c3, c4, c5⟩, c6, c7⟩ := HF.out W hW; go_simp; rfl); (go_simp; refine hK _ _ ?_; clear hK K))
      refine mix_rdcall rfl rfl 10 #[.int .i64 1] (.int .i64 1) (fun W => by go_simp) (fun W hW => rd0 (num_any 1 W)) ?_
      go_simp
      repeat (refine mix_rd1 rfl rfl (fun K hK => ?_); apply Exists.intro; refine ⟨fun W hW => ?_, ?_⟩; (obtain ⟨⟨c1, c2, c3, c4, c5⟩, c6, c7⟩ := HF.out W hW; go_simp; rfl); (go_simp; refine hK _ _ ?_; clear hK K))
      refine mix_rdcall rfl rfl 10 #[.int .i64 1] (.int .i64 1) (fun W => by go_simp) (fun W hW => rd0 (num_any 1 W)) ?_
      go_simp
      repeat (refine mix_rd1 rfl rfl (fun K hK => ?_); apply Exists.intro; refine ⟨fun W hW => ?_, ?_⟩; (obtain ⟨⟨c1, c2, c3, c4, c5⟩, c6, c7⟩ := HF.out W hW; go_simp; rfl); (go_simp; refine hK _ _ ?_; clear hK K))
      refine mix_call rfl rfl 18 #[.agg #[.int .i64 fr, .int .i64 tw, .slice sa bs.length sc]] (fun W0 => by go_simp) ?_
      rintro W0 ⟨m1, rfl⟩
      refine (own_any (HY.out.1.kept (grown_trans H2.out.2.2.1 (grown_trans G3.out (grown_drewN w3 m1 none)))) HY.out.2 fr tw).mono ?_
      rintro e w4 ⟨x1, rfl, _, hg⟩
      have G4 := hid_mk (grown_trans G3.out (grown_trans (grown_drewN w3 m1 none) hg))
      clear hg
      refine ⟨_, rfl, at0 w4 (fun W => w3.grownBy W none), ⟨0, rfl⟩, shut_at0 (fun m => grown_trans G4.out (grown_drewN _ m none)), fun _ h => h, ?_⟩
      go_simp
      refine mix_call rfl rfl 17 #[.pointer p, .agg #[.int .i64 fr, .int .i64 tw, x1]] (fun W0 => by go_simp) ?_
      rintro W0 ⟨m2, rfl⟩
      refine (send_no (NN.out _ (grown_trans G4.out (grown_drewN w4 m2 none))) _ ⟨_, _, _, rfl⟩).mono ?_
      rintro e w5 ⟨rfl, hg⟩
      have G5 := hid_mk (grown_trans G4.out (grown_trans (grown_drewN w4 m2 none) hg))
      clear hg
      refine ⟨_, rfl, at0 w5 (fun W => w3.grownBy W none), ⟨0, rfl⟩, shut_at0 (fun m => grown_trans G5.out (grown_drewN _ m none)), fun _ h => h, ?_⟩
      go_simp
      repeat (refine mix_rd1 rfl rfl (fun K hK => ?_); apply Exists.intro; refine ⟨fun W hW => ?_, ?_⟩; (obtain ⟨⟨c1, c2, c3, c4, c5⟩, c6, c7⟩ := HF.out W hW; go_simp; rfl); (go_simp; refine hK _ _ ?_; clear hK K))
      refine mix_rdcall rfl rfl 10 #[.int .i64 1] (.int .i64 1) (fun W => by go_simp) (fun W hW => rd0 (num_any 1 W)) ?_
      go_simp
      repeat (refine mix_rd1 rfl rfl (fun K hK => ?_); apply Exists.intro; refine ⟨fun W hW => ?_, ?_⟩; (obtain ⟨⟨c1, c2, c3, c4, c5⟩, c6, c7⟩ := HF.out W hW; go_simp; rfl); (go_simp; refine hK _ _ ?_; clear hK K))
      refine mix_rdcall rfl rfl 19 #[.pointer p, .int .i64 k] (.int .i64 1) (fun W => by go_simp) (fun W hW => rd0 (lose_no (NN.out W hW) k)) ?_
      go_simp
      repeat (refine mix_rd1 rfl rfl (fun K hK => ?_); apply Exists.intro; refine ⟨fun W hW => ?_, ?_⟩; (obtain ⟨⟨c1, c2, c3, c4, c5⟩, c6, c7⟩ := HF.out W hW; go_simp; rfl); (go_simp; refine hK _ _ ?_; clear hK K))
      refine mix_rdcall rfl rfl 10 #[.int .i64 1] (.int .i64 1) (fun W => by go_simp) (fun W hW => rd0 (num_any 1 W)) ?_
      go_simp
      repeat (refine mix_rd1 rfl rfl (fun K hK => ?_); apply Exists.intro; refine ⟨fun W hW => ?_, ?_⟩; (obtain ⟨⟨c1, c2, c3, c4, c5⟩, c6, c7⟩ := HF.out W hW; go_simp; rfl); (go_simp; refine hK _ _ ?_; clear hK K))
      refine mix_rdcall rfl rfl 20 #[.pointer p, .int .i64 k] (.int .i64 1) (fun W => by go_simp) (fun W hW => rd0 (dbl_no (NN.out W hW) k)) ?_
      go_simp
      repeat (refine mix_rd1 rfl rfl (fun K hK => ?_); apply Exists.intro; refine ⟨fun W hW => ?_, ?_⟩; (obtain ⟨⟨c1, c2, c3, c4, c5⟩, c6, c7⟩ := HF.out W hW; go_simp; rfl); (go_simp; refine hK _ _ ?_; clear hK K))
      refine mix_rdcall rfl rfl 10 #[.int .i64 1] (.int .i64 1) (fun W => by go_simp) (fun W hW => rd0 (num_any 1 W)) ?_
      go_simp
      repeat (refine mix_rd1 rfl rfl (fun K hK => ?_); apply Exists.intro; refine ⟨fun W hW => ?_, ?_⟩; (obtain ⟨⟨c1, c2, c3, c4, c5⟩, c6, c7⟩ := HF.out W hW; go_simp; rfl); (go_simp; refine hK _ _ ?_; clear hK K))
      refine mix_rdcall rfl rfl 21 #[.pointer p, iv] (.int .i64 1) (fun W => by go_simp) (fun W hW => rd0 (wall_no (NN.out W hW) iv)) ?_
      go_simp
      repeat (refine mix_rd1 rfl rfl (fun K hK => ?_); apply Exists.intro; refine ⟨fun W hW => ?_, ?_⟩; (obtain ⟨⟨c1, c2, c3, c4, c5⟩, c6, c7⟩ := HF.out W hW; go_simp; rfl); (go_simp; refine hK _ _ ?_; clear hK K))
      refine mix_rdcall rfl rfl 10 #[.int .i64 1] (.int .i64 1) (fun W => by go_simp) (fun W hW => rd0 (num_any 1 W)) ?_
      go_simp
      repeat (refine mix_rd1 rfl rfl (fun K hK => ?_); apply Exists.intro; refine ⟨fun W hW => ?_, ?_⟩; (obtain ⟨⟨c1, c2, c3, c4, c5⟩, c6, c7⟩ := HF.out W hW; go_simp; rfl); (go_simp; refine hK _ _ ?_; clear hK K))
      refine mix_call rfl rfl 18 #[.agg #[.int .i64 fr, .int .i64 tw, .slice sa bs.length sc]] (fun W0 => by go_simp) ?_
      rintro W0 ⟨m3, rfl⟩
      refine (own_any (HY.out.1.kept (grown_trans H2.out.2.2.1 (grown_trans G5.out (grown_drewN w5 m3 none)))) HY.out.2 fr tw).mono ?_
      rintro e w6 ⟨x3, rfl, _, hg⟩
      have G6 := hid_mk (grown_trans G5.out (grown_trans (grown_drewN w5 m3 none) hg))
      clear hg
      refine ⟨_, rfl, at0 w6 (fun W => w3.grownBy W none), ⟨0, rfl⟩, shut_at0 (fun m => grown_trans G6.out (grown_drewN _ m none)), fun _ h => h, ?_⟩
      go_simp
      refine mix_call rfl rfl 22 #[.pointer p, .agg #[.int .i64 fr, .int .i64 tw, x3]] (fun W0 => by go_simp) ?_
      rintro W0 ⟨m4, rfl⟩
      refine (open_no (NN.out _ (grown_trans G6.out (grown_drewN w6 m4 none))) _ ⟨_, _, _, rfl⟩).mono ?_
      rintro e w7 ⟨rfl, hg⟩
      have G7 := hid_mk (grown_trans G6.out (grown_trans (grown_drewN w6 m4 none) hg))
      clear hg
      refine ⟨_, rfl, at0 w7 (fun W => w3.grownBy W none), ⟨0, rfl⟩, shut_at0 (fun m => grown_trans G7.out (grown_drewN _ m none)), fun _ h => h, ?_⟩
      go_simp
      repeat (refine mix_rd1 rfl rfl (fun K hK => ?_); apply Exists.intro; refine ⟨fun W hW => ?_, ?_⟩; (obtain ⟨⟨c1, c2, c3, c4, c5⟩, c6, c7⟩ := HF.out W hW; go_simp; rfl); (go_simp; refine hK _ _ ?_; clear hK K))
      refine mix_rdcall rfl rfl 23 #[.pointer p, .int .i64 0] (.int .i64 0) (fun W => by go_simp) (fun W hW => rd0 (next_no (NN.out W hW) 0)) ?_
      go_simp
      repeat (refine mix_rd1 rfl rfl (fun K hK => ?_); apply Exists.intro; refine ⟨fun W hW => ?_, ?_⟩; (obtain ⟨⟨c1, c2, c3, c4, c5⟩, c6, c7⟩ := HF.out W hW; go_simp; rfl); (go_simp; refine hK _ _ ?_; clear hK K))
      refine mix_nil ?_
      rintro W9 ⟨m9, rfl⟩
      have G9 := hid_mk (grown_trans G7.out (grown_drewN w7 m9 none))
      generalize w7.drewN m9 = w9 at *
      go_wp2_with fail
      go_roundg (2 - (i + 1))
      case measure => omega
      case rel =>
        refine ⟨i + 1, some ⟨w9.heap.size, 0, none⟩, by omega, rfl, by go_num, rfl, hid_mk ⟨.inr ⟨w9.heap.size, rfl, ?_⟩, (H2.out.2.1.kept G9.out (by simp)).kept (World.grownBy_alloc _ _ none) (by simp), ga (grown_trans H2.out.2.2.1 G9.out) _⟩⟩
        rw [cell_of_row _ _ _ _ _ _ (heap_alloc_new w9 _)]; rfl
    · have hlt' : ¬ (i : Int) < 2 := by omega
      go_wp2_with (go_at_call 11; refine (knows_any _).mono ?_; rintro e w2 ⟨rfl, hg⟩; have HG := hid_mk hg; clear hg)
      go_ret
      exact ⟨rfl, grown_trans H.out.2.2 HG.out⟩
end Go.Proofs.Ythidpnjndhelbaa
