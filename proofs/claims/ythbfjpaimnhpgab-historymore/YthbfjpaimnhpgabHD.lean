/- history: cmp.Or; calls by client and beginning. -/
import Derived.Test.YthbfjpaimnhpgabHC
import Derived.Sort.Grow
namespace Go.Proofs.Ythbfjpaimnhpgab
open Go.RowKit Go.Maps
set_option linter.unusedVariables false
set_option linter.unusedSimpArgs false
set_option maxRecDepth 100000

def orI (x y : Int) : Int := if x = 0 then y else x
set_option maxHeartbeats 2000000 in
theorem or2_any (x y : Int) {w : World} {q : Nat} (h : Blk w q #[.int .i64 x, .int .i64 y] 3) : Calls Try.prog 28 #[.slice (some ⟨q, 0, none⟩) 2 2] w fun e w' => e = .returned (.int .i64 (orI x y)) ∧ w' = w := by
  have h0 : w.cell? ⟨q, 0, none⟩ = some (.int .i64 x) := h.cell 0
  have h1 : w.cell? ⟨q, 1, none⟩ = some (.int .i64 y) := h.cell 1
  clear h
  go_enter Try.func28, Try.ntmps28
  go_wp2
  refine wp_loop_rounds 3 ?_
  rw [rounds_succ]; go_wp2
  · go_ret
    refine ⟨ret_int ?_, rfl⟩
    unfold orI; simp_all
  · rw [rounds_succ]; go_wp2
    · go_ret
      refine ⟨ret_int ?_, rfl⟩
      unfold orI; simp_all
    · rw [rounds_succ]; go_wp2
      go_ret
      refine ⟨ret_int ?_, rfl⟩
      unfold orI; simp_all
set_option maxHeartbeats 2000000 in
theorem or3_any (x y z : Int) {w : World} {q : Nat} (h : Blk w q #[.int .i64 x, .int .i64 y, .int .i64 z] 3) : Calls Try.prog 28 #[.slice (some ⟨q, 0, none⟩) 3 3] w fun e w' => e = .returned (.int .i64 (orI x (orI y z))) ∧ w' = w := by
  have h0 : w.cell? ⟨q, 0, none⟩ = some (.int .i64 x) := h.cell 0
  have h1 : w.cell? ⟨q, 1, none⟩ = some (.int .i64 y) := h.cell 1
  have h2 : w.cell? ⟨q, 2, none⟩ = some (.int .i64 z) := h.cell 2
  clear h
  go_enter Try.func28, Try.ntmps28
  go_wp2
  refine wp_loop_rounds 4 ?_
  rw [rounds_succ]; go_wp2
  · go_ret
    refine ⟨ret_int ?_, rfl⟩
    unfold orI; simp_all
  · rw [rounds_succ]; go_wp2
    · go_ret
      refine ⟨ret_int ?_, rfl⟩
      unfold orI; simp_all
    · rw [rounds_succ]; go_wp2
      · go_ret
        refine ⟨ret_int ?_, rfl⟩
        unfold orI; simp_all
      · rw [rounds_succ]; go_wp2
        go_ret
        refine ⟨ret_int ?_, rfl⟩
        unfold orI; simp_all
def cmpC (x y : CE) : Int := orI (cmpI x.g.c y.g.c) (cmpI x.g.b y.g.b)
theorem grow_drewN (w : World) (os : Array Obj) (n : Nat) : (Go.Sort.grow w os).drewN n = Go.Sort.grow (w.drewN n) os := rfl
set_option maxHeartbeats 4000000 in
theorem byClient_lit (c1 b1 e1 k1 t1 : Int) (an1 : Bool) (fr1 mo1 nu1 st1 : Int) (da1 : Option Addr) (dn1 dc1 : Nat) (ra1 : Option Addr) (rn1 rc1 : Nat) (c2 b2 e2 k2 t2 : Int) (an2 : Bool) (fr2 mo2 nu2 st2 : Int) (da2 : Option Addr) (dn2 dc2 : Nat) (ra2 : Option Addr) (rn2 rc2 : Nat) (w : World) : Calls Try.prog 27 #[.agg #[.int .i64 c1, .int .i64 b1, .int .i64 e1, .int .i64 k1, .int .i64 t1, .bool an1, .int .i64 fr1, .int .i64 mo1, .int .i64 nu1, .int .i64 st1, .slice da1 dn1 dc1, .slice ra1 rn1 rc1], .agg #[.int .i64 c2, .int .i64 b2, .int .i64 e2, .int .i64 k2, .int .i64 t2, .bool an2, .int .i64 fr2, .int .i64 mo2, .int .i64 nu2, .int .i64 st2, .slice da2 dn2 dc2, .slice ra2 rn2 rc2]] w fun e' w' => e' = .returned (.int .i64 (orI (cmpI c1 c2) (cmpI b1 b2))) ∧ ∃ q os', w' = Go.Sort.grow (w.drewN q) os' := by
  have HB := hid_mk (blk_alloc2 w #[.int .i64 c1, .int .i64 b1, .int .i64 e1, .int .i64 k1, .int .i64 t1, .bool an1, .int .i64 fr1, .int .i64 mo1, .int .i64 nu1, .int .i64 st1, .slice da1 dn1 dc1, .slice ra1 rn1 rc1] #[.int .i64 c2, .int .i64 b2, .int .i64 e2, .int .i64 k2, .int .i64 t2, .bool an2, .int .i64 fr2, .int .i64 mo2, .int .i64 nu2, .int .i64 st2, .slice da2 dn2 dc2, .slice ra2 rn2 rc2] 42 42)
  have HW := hid_mk (show ∃ os', (w.alloc (.cells #[.int .i64 c1, .int .i64 b1, .int .i64 e1, .int .i64 k1, .int .i64 t1, .bool an1, .int .i64 fr1, .int .i64 mo1, .int .i64 nu1, .int .i64 st1, .slice da1 dn1 dc1, .slice ra1 rn1 rc1] 42)).alloc (.cells #[.int .i64 c2, .int .i64 b2, .int .i64 e2, .int .i64 k2, .int .i64 t2, .bool an2, .int .i64 fr2, .int .i64 mo2, .int .i64 nu2, .int .i64 st2, .slice da2 dn2 dc2, .slice ra2 rn2 rc2] 42) = Go.Sort.grow w os' from ⟨_, by rw [Go.Sort.alloc_eq_grow, Go.Sort.alloc_eq_grow, Go.Sort.grow_grow]⟩)
  go_enter Try.func27, Try.ntmps27
  go_upto_region 1 with fail
  generalize ((w.alloc (.cells #[.int .i64 c1, .int .i64 b1, .int .i64 e1, .int .i64 k1, .int .i64 t1, .bool an1, .int .i64 fr1, .int .i64 mo1, .int .i64 nu1, .int .i64 st1, .slice da1 dn1 dc1, .slice ra1 rn1 rc1] 42)).alloc (.cells #[.int .i64 c2, .int .i64 b2, .int .i64 e2, .int .i64 k2, .int .i64 t2, .bool an2, .int .i64 fr2, .int .i64 mo2, .int .i64 nu2, .int .i64 st2, .slice da2 dn2 dc2, .slice ra2 rn2 rc2] 42)) = w1 at *
  generalize hq : w.heap.size = q at *
  clear hq
  refine wp_region_mix [(0, true), (1, true), (2, true), (3, true), (4, true), (5, true), (6, true), (7, true), (8, true), (9, true), (10, false), (11, true), (12, true)] (at0 w1 (fun W => Blk W q #[.int .i64 c1, .int .i64 b1, .int .i64 e1, .int .i64 k1, .int .i64 t1, .bool an1, .int .i64 fr1, .int .i64 mo1, .int .i64 nu1, .int .i64 st1, .slice da1 dn1 dc1, .slice ra1 rn1 rc1] 42 ∧ Blk W (q + 1) #[.int .i64 c2, .int .i64 b2, .int .i64 e2, .int .i64 k2, .int .i64 t2, .bool an2, .int .i64 fr2, .int .i64 mo2, .int .i64 nu2, .int .i64 st2, .slice da2 dn2 dc2, .slice ra2 rn2 rc2] 42)) (by kernel_rfl) (by kernel_rfl) rfl (by kernel_rfl) (shut_at0 (fun m => ⟨HB.out.1.kept (grown_drewN _ m none) (by simp), HB.out.2.kept (grown_drewN _ m none) (by simp)⟩)) ⟨1, rfl⟩ ?_
  have HC := hid_mk (fun (W : World) (hW : Blk W q #[.int .i64 c1, .int .i64 b1, .int .i64 e1, .int .i64 k1, .int .i64 t1, .bool an1, .int .i64 fr1, .int .i64 mo1, .int .i64 nu1, .int .i64 st1, .slice da1 dn1 dc1, .slice ra1 rn1 rc1] 42 ∧ Blk W (q + 1) #[.int .i64 c2, .int .i64 b2, .int .i64 e2, .int .i64 k2, .int .i64 t2, .bool an2, .int .i64 fr2, .int .i64 mo2, .int .i64 nu2, .int .i64 st2, .slice da2 dn2 dc2, .slice ra2 rn2 rc2] 42) => And.intro (blk12 hW.1) (blk12 hW.2))
  refine mix_rd1 rfl rfl (fun K hK => ?_); apply Exists.intro; refine ⟨fun W hW => ?_, ?_⟩; (obtain ⟨⟨x0, x1, x2, x3, x4, x5, x6, x7, x8, x9, x10, x11, xf⟩, y0, y1, y2, y3, y4, y5, y6, y7, y8, y9, y10, y11, yf⟩ := HC.out W hW; go_simp; rfl); (go_simp; refine hK _ _ ?_; clear hK K)
  refine mix_rd1 rfl rfl (fun K hK => ?_); apply Exists.intro; refine ⟨fun W hW => ?_, ?_⟩; (obtain ⟨⟨x0, x1, x2, x3, x4, x5, x6, x7, x8, x9, x10, x11, xf⟩, y0, y1, y2, y3, y4, y5, y6, y7, y8, y9, y10, y11, yf⟩ := HC.out W hW; go_simp; rfl); (go_simp; refine hK _ _ ?_; clear hK K)
  refine mix_rd1 rfl rfl (fun K hK => ?_); apply Exists.intro; refine ⟨fun W hW => ?_, ?_⟩; (obtain ⟨⟨x0, x1, x2, x3, x4, x5, x6, x7, x8, x9, x10, x11, xf⟩, y0, y1, y2, y3, y4, y5, y6, y7, y8, y9, y10, y11, yf⟩ := HC.out W hW; go_simp; rfl); (go_simp; refine hK _ _ ?_; clear hK K)
  refine mix_rd1 rfl rfl (fun K hK => ?_); apply Exists.intro; refine ⟨fun W hW => ?_, ?_⟩; (obtain ⟨⟨x0, x1, x2, x3, x4, x5, x6, x7, x8, x9, x10, x11, xf⟩, y0, y1, y2, y3, y4, y5, y6, y7, y8, y9, y10, y11, yf⟩ := HC.out W hW; go_simp; rfl); (go_simp; refine hK _ _ ?_; clear hK K)
  refine mix_rdcall rfl rfl 29 #[.int .i64 c1, .int .i64 c2] (.int .i64 (cmpI c1 c2)) (fun W => by go_simp) (fun W hW => (compare_any _ _ W).mono fun e' w' ⟨h1, h2⟩ => ⟨h1, 0, h2⟩) ?_
  go_simp
  refine mix_rd1 rfl rfl (fun K hK => ?_); apply Exists.intro; refine ⟨fun W hW => ?_, ?_⟩; (obtain ⟨⟨x0, x1, x2, x3, x4, x5, x6, x7, x8, x9, x10, x11, xf⟩, y0, y1, y2, y3, y4, y5, y6, y7, y8, y9, y10, y11, yf⟩ := HC.out W hW; go_simp; rfl); (go_simp; refine hK _ _ ?_; clear hK K)
  refine mix_rd1 rfl rfl (fun K hK => ?_); apply Exists.intro; refine ⟨fun W hW => ?_, ?_⟩; (obtain ⟨⟨x0, x1, x2, x3, x4, x5, x6, x7, x8, x9, x10, x11, xf⟩, y0, y1, y2, y3, y4, y5, y6, y7, y8, y9, y10, y11, yf⟩ := HC.out W hW; go_simp; rfl); (go_simp; refine hK _ _ ?_; clear hK K)
  refine mix_rd1 rfl rfl (fun K hK => ?_); apply Exists.intro; refine ⟨fun W hW => ?_, ?_⟩; (obtain ⟨⟨x0, x1, x2, x3, x4, x5, x6, x7, x8, x9, x10, x11, xf⟩, y0, y1, y2, y3, y4, y5, y6, y7, y8, y9, y10, y11, yf⟩ := HC.out W hW; go_simp; rfl); (go_simp; refine hK _ _ ?_; clear hK K)
  refine mix_rd1 rfl rfl (fun K hK => ?_); apply Exists.intro; refine ⟨fun W hW => ?_, ?_⟩; (obtain ⟨⟨x0, x1, x2, x3, x4, x5, x6, x7, x8, x9, x10, x11, xf⟩, y0, y1, y2, y3, y4, y5, y6, y7, y8, y9, y10, y11, yf⟩ := HC.out W hW; go_simp; rfl); (go_simp; refine hK _ _ ?_; clear hK K)
  refine mix_rdcall rfl rfl 29 #[.int .i64 b1, .int .i64 b2] (.int .i64 (cmpI b1 b2)) (fun W => by go_simp) (fun W hW => (compare_any _ _ W).mono fun e' w' ⟨h1, h2⟩ => ⟨h1, 0, h2⟩) ?_
  go_simp
  refine mix_do rfl rfl ?_
  rintro W0 ⟨m1, rfl⟩
  refine ⟨.slice (some ⟨w1.heap.size, 0, none⟩) 2 2, (w1.drewN m1).alloc (.cells #[.int .i64 (cmpI c1 c2), .int .i64 (cmpI b1 b2)] 3), by go_simp, ?_⟩
  have HQ := hid_mk (blk_alloc (w1.drewN m1) #[.int .i64 (cmpI c1 c2), .int .i64 (cmpI b1 b2)] 3)
  refine ⟨at0 ((w1.drewN m1).alloc (.cells #[.int .i64 (cmpI c1 c2), .int .i64 (cmpI b1 b2)] 3)) (fun W => Blk W w1.heap.size #[.int .i64 (cmpI c1 c2), .int .i64 (cmpI b1 b2)] 3 ∧ Blk W q #[.int .i64 c1, .int .i64 b1, .int .i64 e1, .int .i64 k1, .int .i64 t1, .bool an1, .int .i64 fr1, .int .i64 mo1, .int .i64 nu1, .int .i64 st1, .slice da1 dn1 dc1, .slice ra1 rn1 rc1] 42 ∧ Blk W (q + 1) #[.int .i64 c2, .int .i64 b2, .int .i64 e2, .int .i64 k2, .int .i64 t2, .bool an2, .int .i64 fr2, .int .i64 mo2, .int .i64 nu2, .int .i64 st2, .slice da2 dn2 dc2, .slice ra2 rn2 rc2] 42), ⟨0, rfl⟩, shut_at0 (fun m => ?_), fun _ h => h.2, ?_⟩
  · exact ⟨HQ.out.kept (grown_drewN _ m none) (by simp), HB.out.1.kept (grown_trans (grown_drewN _ m1 none) (grown_trans (World.grownBy_alloc _ _ none) (grown_drewN _ m none))) (by simp), HB.out.2.kept (grown_trans (grown_drewN _ m1 none) (grown_trans (World.grownBy_alloc _ _ none) (grown_drewN _ m none))) (by simp)⟩
  go_simp
  refine mix_rdcall rfl rfl 28 #[.slice (some ⟨w1.heap.size, 0, none⟩) 2 2] (.int .i64 (orI (cmpI c1 c2) (cmpI b1 b2))) (fun W => by go_simp) (fun W hW => (or2_any _ _ hW.1).mono fun e' w' ⟨h1, h2⟩ => ⟨h1, 0, h2⟩) ?_
  go_simp
  refine mix_rd1 rfl rfl (fun K hK => ?_); apply Exists.intro; refine ⟨fun W hW => ?_, ?_⟩
  · go_simp; rfl
  go_simp
  refine hK _ _ ?_
  clear hK K
  refine mix_nil ?_
  rintro W ⟨m2, rfl⟩
  go_wp2
  go_ret
  refine ⟨rfl, ?_⟩
  obtain ⟨os', ho⟩ := HW.out
  exact ⟨m1 + m2, os' ++ #[.cells #[.int .i64 (cmpI c1 c2), .int .i64 (cmpI b1 b2)] 3], by rw [ho, grow_drewN, Go.Sort.alloc_eq_grow, Go.Sort.grow_grow, grow_drewN]; simp [World.drewN, Nat.add_assoc]⟩
end Go.Proofs.Ythbfjpaimnhpgab
