/- history: do. -/
import Derived.Test.YthbfjpaimnhpgabHTb
import Derived.Test.YthbfjpaimnhpgabHP2
namespace Go.Proofs.Ythbfjpaimnhpgab
open Go.RowKit Go.Maps
set_option linter.unusedVariables false
set_option linter.unusedSimpArgs false
set_option maxRecDepth 100000

theorem mp_pre {w w1 w' : World} {b : Nat} {vm vm' : Value} (hg : w.grownBy w1 none) (h : MP w1 w' b vm vm') : MP w w' b vm vm' :=
  ⟨keeps_then (Keeps.of_none hg) h.keeps (fun k _ e => e), fun k e => (h.new k e).imp_right (fun h => Nat.le_trans hg.size h)⟩
set_option maxHeartbeats 4000000 in
theorem do_put {w : World} {b : Nat} {vm : Value} {R : List RV} {s : Nat} (h : IsM w b vm R s) (x : CE) (xa : Option Addr) (xn xc : Nat) (ra : Option Addr) (rc : Nat) (hk : x.g.k = 1) (hf : s + R.length + 1 ≤ 5864062014805) :
    Calls Try.prog 23 #[.pointer (some ⟨b, 0, none⟩), .agg #[.int .i64 x.g.c, .int .i64 x.g.b, .int .i64 x.g.e, .int .i64 x.g.k, .int .i64 x.g.at', .bool x.g.an, .int .i64 x.g.fr, .int .i64 x.g.mo, .int .i64 x.g.nu, .int .i64 x.g.st, .slice xa xn xc, .slice ra x.R.length rc]] w fun e w' => e = .returned (.bool (fitsM ⟨s, R.map (·.1)⟩ x.g)) ∧ ∃ vm' R' s', IsM w' b vm' R' s' ∧ MP w w' b vm vm' ∧ Mo.mk s' (R'.map (·.1)) = doM ⟨s, R.map (·.1)⟩ x.g ∧ (∀ p ∈ R', p ∈ R ∨ p = (x.g.d, .slice xa xn xc)) ∧ s' + R'.length ≤ s + R.length + 1 := by
  have hfit : fitsM ⟨s, R.map (·.1)⟩ x.g = decide (x.g.nu = ((s + R.length : Nat) : Int)) := by rw [fits_of_put _ _ hk]; simp [Mo.next]
  have hdo : doM ⟨s, R.map (·.1)⟩ x.g = putM ⟨s, R.map (·.1)⟩ x.g.d := by unfold doM; rw [if_pos hk]
  rw [hfit, hdo]
  have HK := hid_mk hk
  clear hfit hdo hk
  have HB := hid_mk (show Blk (w.alloc (.cells #[.int .i64 x.g.c, .int .i64 x.g.b, .int .i64 x.g.e, .int .i64 x.g.k, .int .i64 x.g.at', .bool x.g.an, .int .i64 x.g.fr, .int .i64 x.g.mo, .int .i64 x.g.nu, .int .i64 x.g.st, .slice xa xn xc, .slice ra x.R.length rc] 42)) w.heap.size #[.int .i64 x.g.c, .int .i64 x.g.b, .int .i64 x.g.e, .int .i64 x.g.k, .int .i64 x.g.at', .bool x.g.an, .int .i64 x.g.fr, .int .i64 x.g.mo, .int .i64 x.g.nu, .int .i64 x.g.st, .slice xa xn xc, .slice ra x.R.length rc] 42 ∧ IsM (w.alloc (.cells #[.int .i64 x.g.c, .int .i64 x.g.b, .int .i64 x.g.e, .int .i64 x.g.k, .int .i64 x.g.at', .bool x.g.an, .int .i64 x.g.fr, .int .i64 x.g.mo, .int .i64 x.g.nu, .int .i64 x.g.st, .slice xa xn xc, .slice ra x.R.length rc] 42)) b vm R s ∧ w.grownBy (w.alloc (.cells #[.int .i64 x.g.c, .int .i64 x.g.b, .int .i64 x.g.e, .int .i64 x.g.k, .int .i64 x.g.at', .bool x.g.an, .int .i64 x.g.fr, .int .i64 x.g.mo, .int .i64 x.g.nu, .int .i64 x.g.st, .slice xa xn xc, .slice ra x.R.length rc] 42)) none from ⟨blk_alloc w _ 42, h.grown (World.grownBy_alloc _ _ none), World.grownBy_alloc _ _ none⟩)
  have HM := hid_mk h
  clear h
  go_enter Try.func23, Try.ntmps23
  go_upto_region 1 with fail
  generalize (w.alloc (.cells #[.int .i64 x.g.c, .int .i64 x.g.b, .int .i64 x.g.e, .int .i64 x.g.k, .int .i64 x.g.at', .bool x.g.an, .int .i64 x.g.fr, .int .i64 x.g.mo, .int .i64 x.g.nu, .int .i64 x.g.st, .slice xa xn xc, .slice ra x.R.length rc] 42)) = w1 at *
  obtain ⟨q, hq⟩ : ∃ q, q = w.heap.size := ⟨_, rfl⟩
  rw [← hq] at HB ⊢
  have HQ := hid_mk hq
  clear hq
  obtain ⟨d0, d1, d2, d3, d4, d5, d6, d7, d8, d9, d10, d11, df⟩ := blk12 HB.out.1
  rw [HK.out] at d3
  go_upto_region 3 with fail
  clear d0 d1 d2 d3 d4 d5 d6 d7 d8 d9 d10 d11 df
  refine wp_region_mix [(0, true), (1, true), (2, true), (4, true), (5, true), (3, false), (6, true), (7, true)] (at0 w1 (fun W => Blk W q #[.int .i64 x.g.c, .int .i64 x.g.b, .int .i64 x.g.e, .int .i64 x.g.k, .int .i64 x.g.at', .bool x.g.an, .int .i64 x.g.fr, .int .i64 x.g.mo, .int .i64 x.g.nu, .int .i64 x.g.st, .slice xa xn xc, .slice ra x.R.length rc] 42)) (by kernel_rfl) (by kernel_rfl) rfl (by kernel_rfl) (shut_at0 (fun m => HB.out.1.kept (grown_drewN _ m none) (by simp))) ⟨1, rfl⟩ ?_
  have HC := hid_mk (fun (W : World) (hW : Blk W q #[.int .i64 x.g.c, .int .i64 x.g.b, .int .i64 x.g.e, .int .i64 x.g.k, .int .i64 x.g.at', .bool x.g.an, .int .i64 x.g.fr, .int .i64 x.g.mo, .int .i64 x.g.nu, .int .i64 x.g.st, .slice xa xn xc, .slice ra x.R.length rc] 42) => blk12 hW)
  repeat (refine mix_rd1 rfl rfl (fun K hK => ?_); apply Exists.intro; refine ⟨fun W hW => ?_, ?_⟩; (obtain ⟨d0, d1, d2, d3, d4, d5, d6, d7, d8, d9, d10, d11, df⟩ := HC.out W hW; go_simp; rfl); (go_simp; refine hK _ _ ?_; clear hK K))
  refine mix_call rfl rfl 31 #[.pointer (some ⟨b, 0, none⟩), .slice xa xn xc] (fun W0 => by go_simp) ?_
  rintro W0 ⟨m0, rfl⟩
  refine (put_any (HB.out.2.1.grown (grown_drewN w1 m0 none)) x.g.d (.slice xa xn xc) ⟨_, _, _, rfl⟩ hf).mono ?_
  rintro e W2 ⟨rfl, vm', h2, h3⟩
  have H2 := hid_mk (And.intro h2 (And.intro (mp_pre (grown_trans HB.out.2.2 (grown_drewN w1 m0 none)) h3) (show Blk W2 q #[.int .i64 x.g.c, .int .i64 x.g.b, .int .i64 x.g.e, .int .i64 x.g.k, .int .i64 x.g.at', .bool x.g.an, .int .i64 x.g.fr, .int .i64 x.g.mo, .int .i64 x.g.nu, .int .i64 x.g.st, .slice xa xn xc, .slice ra x.R.length rc] 42 from (HB.out.1.kept (grown_drewN w1 m0 none) (by simp)).keeps h3.keeps (fun e => by have := HM.out.lt e; have := HQ.out; omega))))
  clear h2 h3
  refine ⟨_, rfl, at0 W2 (fun W => Blk W q #[.int .i64 x.g.c, .int .i64 x.g.b, .int .i64 x.g.e, .int .i64 x.g.k, .int .i64 x.g.at', .bool x.g.an, .int .i64 x.g.fr, .int .i64 x.g.mo, .int .i64 x.g.nu, .int .i64 x.g.st, .slice xa xn xc, .slice ra x.R.length rc] 42), ⟨0, rfl⟩, shut_at0 (fun m => H2.out.2.2.kept (grown_drewN _ m none) (by simp)), fun _ h => h, ?_⟩
  go_simp
  repeat (refine mix_rd1 rfl rfl (fun K hK => ?_); apply Exists.intro; refine ⟨fun W hW => ?_, ?_⟩; (obtain ⟨d0, d1, d2, d3, d4, d5, d6, d7, d8, d9, d10, d11, df⟩ := HC.out W hW; go_simp; rfl); (go_simp; refine hK _ _ ?_; clear hK K))
  refine mix_nil ?_
  rintro W ⟨m1, rfl⟩
  go_wp2_with fail
  go_ret
  refine ⟨ret_bool (by rw [Bool.eq_iff_iff]; simp; omega), vm', R ++ [(x.g.d, .slice xa xn xc)], s, H2.out.1.grown (grown_drewN W2 m1 none), ⟨keeps_then H2.out.2.1.keeps (Keeps.of_none (F := MF b vm) (grown_drewN W2 m1 none)) (fun k _ e => e), fun k e => H2.out.2.1.new k e⟩, by simp [putM], fun p hp => ?_, by simp; omega⟩
  rcases List.mem_append.1 hp with hp | hp
  · exact .inl hp
  · exact .inr (List.mem_singleton.1 hp)
set_option maxHeartbeats 4000000 in
theorem do_trim {w : World} {b : Nat} {vm : Value} {R : List RV} {s : Nat} (h : IsM w b vm R s) (x : CE) (xa : Option Addr) (xn xc : Nat) (ra : Option Addr) (rc : Nat) (hk : x.g.k = 3) :
    Calls Try.prog 23 #[.pointer (some ⟨b, 0, none⟩), .agg #[.int .i64 x.g.c, .int .i64 x.g.b, .int .i64 x.g.e, .int .i64 x.g.k, .int .i64 x.g.at', .bool x.g.an, .int .i64 x.g.fr, .int .i64 x.g.mo, .int .i64 x.g.nu, .int .i64 x.g.st, .slice xa xn xc, .slice ra x.R.length rc]] w fun e w' => e = .returned (.bool (fitsM ⟨s, R.map (·.1)⟩ x.g)) ∧ ∃ vm' R' s', IsM w' b vm' R' s' ∧ MP w w' b vm vm' ∧ Mo.mk s' (R'.map (·.1)) = doM ⟨s, R.map (·.1)⟩ x.g ∧ (∀ p ∈ R', p ∈ R ∨ p = (x.g.d, .slice xa xn xc)) ∧ s' + R'.length ≤ s + R.length + 1 := by
  have hfit : fitsM ⟨s, R.map (·.1)⟩ x.g = decide (x.g.st = ((s + goneM ⟨s, R.map (·.1)⟩ x.g.fr : Nat) : Int)) := by rw [fits_of_trim _ _ hk]; rfl
  have hdo : doM ⟨s, R.map (·.1)⟩ x.g = trimM ⟨s, R.map (·.1)⟩ x.g.fr := by unfold doM; rw [if_neg (by omega), if_pos hk]
  rw [hfit, hdo]
  have HK := hid_mk hk
  clear hfit hdo hk
  have HB := hid_mk (show Blk (w.alloc (.cells #[.int .i64 x.g.c, .int .i64 x.g.b, .int .i64 x.g.e, .int .i64 x.g.k, .int .i64 x.g.at', .bool x.g.an, .int .i64 x.g.fr, .int .i64 x.g.mo, .int .i64 x.g.nu, .int .i64 x.g.st, .slice xa xn xc, .slice ra x.R.length rc] 42)) w.heap.size #[.int .i64 x.g.c, .int .i64 x.g.b, .int .i64 x.g.e, .int .i64 x.g.k, .int .i64 x.g.at', .bool x.g.an, .int .i64 x.g.fr, .int .i64 x.g.mo, .int .i64 x.g.nu, .int .i64 x.g.st, .slice xa xn xc, .slice ra x.R.length rc] 42 ∧ IsM (w.alloc (.cells #[.int .i64 x.g.c, .int .i64 x.g.b, .int .i64 x.g.e, .int .i64 x.g.k, .int .i64 x.g.at', .bool x.g.an, .int .i64 x.g.fr, .int .i64 x.g.mo, .int .i64 x.g.nu, .int .i64 x.g.st, .slice xa xn xc, .slice ra x.R.length rc] 42)) b vm R s ∧ w.grownBy (w.alloc (.cells #[.int .i64 x.g.c, .int .i64 x.g.b, .int .i64 x.g.e, .int .i64 x.g.k, .int .i64 x.g.at', .bool x.g.an, .int .i64 x.g.fr, .int .i64 x.g.mo, .int .i64 x.g.nu, .int .i64 x.g.st, .slice xa xn xc, .slice ra x.R.length rc] 42)) none from ⟨blk_alloc w _ 42, h.grown (World.grownBy_alloc _ _ none), World.grownBy_alloc _ _ none⟩)
  have HM := hid_mk h
  clear h
  go_enter Try.func23, Try.ntmps23
  go_upto_region 1 with fail
  generalize (w.alloc (.cells #[.int .i64 x.g.c, .int .i64 x.g.b, .int .i64 x.g.e, .int .i64 x.g.k, .int .i64 x.g.at', .bool x.g.an, .int .i64 x.g.fr, .int .i64 x.g.mo, .int .i64 x.g.nu, .int .i64 x.g.st, .slice xa xn xc, .slice ra x.R.length rc] 42)) = w1 at *
  obtain ⟨q, hq⟩ : ∃ q, q = w.heap.size := ⟨_, rfl⟩
  rw [← hq] at HB ⊢
  have HQ := hid_mk hq
  clear hq
  obtain ⟨d0, d1, d2, d3, d4, d5, d6, d7, d8, d9, d10, d11, df⟩ := blk12 HB.out.1
  rw [HK.out] at d3
  go_upto_region 5 with fail
  clear d0 d1 d2 d3 d4 d5 d6 d7 d8 d9 d10 d11 df
  refine wp_region_mix [(0, true), (1, true), (2, true), (4, true), (5, true), (3, false), (6, true), (7, true)] (at0 w1 (fun W => Blk W q #[.int .i64 x.g.c, .int .i64 x.g.b, .int .i64 x.g.e, .int .i64 x.g.k, .int .i64 x.g.at', .bool x.g.an, .int .i64 x.g.fr, .int .i64 x.g.mo, .int .i64 x.g.nu, .int .i64 x.g.st, .slice xa xn xc, .slice ra x.R.length rc] 42)) (by kernel_rfl) (by kernel_rfl) rfl (by kernel_rfl) (shut_at0 (fun m => HB.out.1.kept (grown_drewN _ m none) (by simp))) ⟨1, rfl⟩ ?_
  have HC := hid_mk (fun (W : World) (hW : Blk W q #[.int .i64 x.g.c, .int .i64 x.g.b, .int .i64 x.g.e, .int .i64 x.g.k, .int .i64 x.g.at', .bool x.g.an, .int .i64 x.g.fr, .int .i64 x.g.mo, .int .i64 x.g.nu, .int .i64 x.g.st, .slice xa xn xc, .slice ra x.R.length rc] 42) => blk12 hW)
  repeat (refine mix_rd1 rfl rfl (fun K hK => ?_); apply Exists.intro; refine ⟨fun W hW => ?_, ?_⟩; (obtain ⟨d0, d1, d2, d3, d4, d5, d6, d7, d8, d9, d10, d11, df⟩ := HC.out W hW; go_simp; rfl); (go_simp; refine hK _ _ ?_; clear hK K))
  refine mix_call rfl rfl 32 #[.pointer (some ⟨b, 0, none⟩), .int .i64 x.g.fr] (fun W0 => by go_simp) ?_
  rintro W0 ⟨m0, rfl⟩
  refine (trim_any (HB.out.2.1.grown (grown_drewN w1 m0 none)) x.g.fr).mono ?_
  rintro e W2 ⟨rfl, vm', h2, h3⟩
  have H2 := hid_mk (And.intro h2 (And.intro (mp_pre (grown_trans HB.out.2.2 (grown_drewN w1 m0 none)) h3) (show Blk W2 q #[.int .i64 x.g.c, .int .i64 x.g.b, .int .i64 x.g.e, .int .i64 x.g.k, .int .i64 x.g.at', .bool x.g.an, .int .i64 x.g.fr, .int .i64 x.g.mo, .int .i64 x.g.nu, .int .i64 x.g.st, .slice xa xn xc, .slice ra x.R.length rc] 42 from (HB.out.1.kept (grown_drewN w1 m0 none) (by simp)).keeps h3.keeps (fun e => by have := HM.out.lt e; have := HQ.out; omega))))
  clear h2 h3
  refine ⟨_, rfl, at0 W2 (fun W => Blk W q #[.int .i64 x.g.c, .int .i64 x.g.b, .int .i64 x.g.e, .int .i64 x.g.k, .int .i64 x.g.at', .bool x.g.an, .int .i64 x.g.fr, .int .i64 x.g.mo, .int .i64 x.g.nu, .int .i64 x.g.st, .slice xa xn xc, .slice ra x.R.length rc] 42), ⟨0, rfl⟩, shut_at0 (fun m => H2.out.2.2.kept (grown_drewN _ m none) (by simp)), fun _ h => h, ?_⟩
  go_simp
  repeat (refine mix_rd1 rfl rfl (fun K hK => ?_); apply Exists.intro; refine ⟨fun W hW => ?_, ?_⟩; (obtain ⟨d0, d1, d2, d3, d4, d5, d6, d7, d8, d9, d10, d11, df⟩ := HC.out W hW; go_simp; rfl); (go_simp; refine hK _ _ ?_; clear hK K))
  refine mix_nil ?_
  rintro W ⟨m1, rfl⟩
  go_wp2_with fail
  go_ret
  refine ⟨ret_bool (by rw [Bool.eq_iff_iff]; simp; omega), vm', R.drop (goneM ⟨s, R.map (·.1)⟩ x.g.fr), s + goneM ⟨s, R.map (·.1)⟩ x.g.fr, H2.out.1.grown (grown_drewN W2 m1 none), ⟨keeps_then H2.out.2.1.keeps (Keeps.of_none (F := MF b vm) (grown_drewN W2 m1 none)) (fun k _ e => e), fun k e => H2.out.2.1.new k e⟩, by simp [trimM], fun p u hp => .inl (List.mem_of_mem_drop hp), ?_⟩
  have : goneM ⟨s, R.map (·.1)⟩ x.g.fr ≤ R.length := by have : goneM ⟨s, R.map (·.1)⟩ x.g.fr ≤ (R.map (·.1)).length := Nat.min_le_right _ _
                                                        simpa using this
  rw [List.length_drop]; omega
set_option maxHeartbeats 4000000 in
theorem do_get0 {w : World} {b : Nat} {vm : Value} {R : List RV} {s : Nat} (h : IsM w b vm R s) (x : CE) (xa : Option Addr) (xn xc : Nat) (ra : Option Addr) (rc : Nat) (hk : x.g.k ≠ 1 ∧ x.g.k ≠ 3) (hh : hasM ⟨s, R.map (·.1)⟩ x.g.fr = false) :
    Calls Try.prog 23 #[.pointer (some ⟨b, 0, none⟩), .agg #[.int .i64 x.g.c, .int .i64 x.g.b, .int .i64 x.g.e, .int .i64 x.g.k, .int .i64 x.g.at', .bool x.g.an, .int .i64 x.g.fr, .int .i64 x.g.mo, .int .i64 x.g.nu, .int .i64 x.g.st, .slice xa xn xc, .slice ra x.R.length rc]] w fun e w' => e = .returned (.bool false) ∧ w.grownBy w' none := by
  have HH := hid_mk hh
  clear hh
  have hk1 : (x.g.k == 1) = false := beq_eq_false_iff_ne.2 hk.1
  have hk3 : (x.g.k == 3) = false := beq_eq_false_iff_ne.2 hk.2
  clear hk
  have HB := hid_mk (show Blk (w.alloc (.cells #[.int .i64 x.g.c, .int .i64 x.g.b, .int .i64 x.g.e, .int .i64 x.g.k, .int .i64 x.g.at', .bool x.g.an, .int .i64 x.g.fr, .int .i64 x.g.mo, .int .i64 x.g.nu, .int .i64 x.g.st, .slice xa xn xc, .slice ra x.R.length rc] 42)) w.heap.size #[.int .i64 x.g.c, .int .i64 x.g.b, .int .i64 x.g.e, .int .i64 x.g.k, .int .i64 x.g.at', .bool x.g.an, .int .i64 x.g.fr, .int .i64 x.g.mo, .int .i64 x.g.nu, .int .i64 x.g.st, .slice xa xn xc, .slice ra x.R.length rc] 42 ∧ IsM (w.alloc (.cells #[.int .i64 x.g.c, .int .i64 x.g.b, .int .i64 x.g.e, .int .i64 x.g.k, .int .i64 x.g.at', .bool x.g.an, .int .i64 x.g.fr, .int .i64 x.g.mo, .int .i64 x.g.nu, .int .i64 x.g.st, .slice xa xn xc, .slice ra x.R.length rc] 42)) b vm R s ∧ w.grownBy (w.alloc (.cells #[.int .i64 x.g.c, .int .i64 x.g.b, .int .i64 x.g.e, .int .i64 x.g.k, .int .i64 x.g.at', .bool x.g.an, .int .i64 x.g.fr, .int .i64 x.g.mo, .int .i64 x.g.nu, .int .i64 x.g.st, .slice xa xn xc, .slice ra x.R.length rc] 42)) none from ⟨blk_alloc w _ 42, h.grown (World.grownBy_alloc _ _ none), World.grownBy_alloc _ _ none⟩)
  have HM := hid_mk h
  clear h
  go_enter Try.func23, Try.ntmps23
  go_upto_region 1 with fail
  generalize (w.alloc (.cells #[.int .i64 x.g.c, .int .i64 x.g.b, .int .i64 x.g.e, .int .i64 x.g.k, .int .i64 x.g.at', .bool x.g.an, .int .i64 x.g.fr, .int .i64 x.g.mo, .int .i64 x.g.nu, .int .i64 x.g.st, .slice xa xn xc, .slice ra x.R.length rc] 42)) = w1 at *
  obtain ⟨q, hq⟩ : ∃ q, q = w.heap.size := ⟨_, rfl⟩
  rw [← hq] at HB ⊢
  have HQ := hid_mk hq
  clear hq
  obtain ⟨d0, d1, d2, d3, d4, d5, d6, d7, d8, d9, d10, d11, df⟩ := blk12 HB.out.1
  go_upto_region 6 with fail
  clear d0 d1 d2 d3 d4 d5 d6 d7 d8 d9 d10 d11 df hk1 hk3
  refine wp_region_mix [(0, true), (1, true), (2, true), (3, true), (4, true), (5, true), (6, true), (7, true), (8, true), (9, true), (10, true), (11, true), (12, true), (13, true), (14, true), (15, true), (16, true), (17, true), (18, true), (19, true), (20, true), (21, true), (22, true), (23, false), (24, true), (25, true)] (at0 w1 (fun W => Blk W q #[.int .i64 x.g.c, .int .i64 x.g.b, .int .i64 x.g.e, .int .i64 x.g.k, .int .i64 x.g.at', .bool x.g.an, .int .i64 x.g.fr, .int .i64 x.g.mo, .int .i64 x.g.nu, .int .i64 x.g.st, .slice xa xn xc, .slice ra x.R.length rc] 42 ∧ IsM W b vm R s)) (by kernel_rfl) (by kernel_rfl) rfl (by kernel_rfl) (shut_at0 (fun m => ⟨HB.out.1.kept (grown_drewN _ m none) (by simp), HB.out.2.1.grown (grown_drewN _ m none)⟩)) ⟨1, rfl⟩ ?_
  have HC := hid_mk (fun (W : World) (hW : Blk W q #[.int .i64 x.g.c, .int .i64 x.g.b, .int .i64 x.g.e, .int .i64 x.g.k, .int .i64 x.g.at', .bool x.g.an, .int .i64 x.g.fr, .int .i64 x.g.mo, .int .i64 x.g.nu, .int .i64 x.g.st, .slice xa xn xc, .slice ra x.R.length rc] 42 ∧ IsM W b vm R s) => And.intro (blk12 hW.1) hW.2.cells)
  repeat (refine mix_rd1 rfl rfl (fun K hK => ?_); apply Exists.intro; refine ⟨fun W hW => ?_, ?_⟩; (obtain ⟨⟨d0, d1, d2, d3, d4, d5, d6, d7, d8, d9, d10, d11, df⟩, c0, c1, cf⟩ := HC.out W hW; go_simp; rfl); (go_simp; refine hK _ _ ?_; clear hK K))
  refine mix_rdcall rfl rfl 33 #[.pointer (some ⟨b, 0, none⟩), .int .i64 x.g.fr] (.bool (hasM ⟨s, R.map (·.1)⟩ x.g.fr)) (fun W => by go_simp) (fun W hW => has_any hW.2 x.g.fr) ?_
  rw [HH.out]
  go_simp
  repeat (first | (refine mix_no1 rfl rfl (fun K hK => ?_); go_simp; refine hK _ _ ?_; clear hK K) | (refine mix_rd1 rfl rfl (fun K hK => ?_); apply Exists.intro; refine ⟨fun W hW => ?_, ?_⟩; (obtain ⟨⟨d0, d1, d2, d3, d4, d5, d6, d7, d8, d9, d10, d11, df⟩, c0, c1, cf⟩ := HC.out W hW; go_simp; rfl); (go_simp; refine hK _ _ ?_; clear hK K)))
  refine mix_nil ?_
  rintro W ⟨m1, rfl⟩
  go_wp2_with fail
  go_ret
  exact ⟨rfl, grown_trans HB.out.2.2 (grown_drewN w1 m1 none)⟩
set_option maxHeartbeats 4000000 in
theorem do_get1 {w : World} {b : Nat} {vm : Value} {R : List RV} {s : Nat} (h : IsM w b vm R s) (x : CE) (xa : Option Addr) (xn xc : Nat) (ra : Option Addr) (rc : Nat) (hk : x.g.k ≠ 1 ∧ x.g.k ≠ 3) (hh : hasM ⟨s, R.map (·.1)⟩ x.g.fr = true) (n : Nat) (hsn : s + R.length = n) (hn : (x.g.nu == (n : Int)) = false) :
    Calls Try.prog 23 #[.pointer (some ⟨b, 0, none⟩), .agg #[.int .i64 x.g.c, .int .i64 x.g.b, .int .i64 x.g.e, .int .i64 x.g.k, .int .i64 x.g.at', .bool x.g.an, .int .i64 x.g.fr, .int .i64 x.g.mo, .int .i64 x.g.nu, .int .i64 x.g.st, .slice xa xn xc, .slice ra x.R.length rc]] w fun e w' => e = .returned (.bool false) ∧ w.grownBy w' none := by
  have HH := hid_mk hh
  have HSN := hid_mk hsn
  clear hh hsn
  have hk1 : (x.g.k == 1) = false := beq_eq_false_iff_ne.2 hk.1
  have hk3 : (x.g.k == 3) = false := beq_eq_false_iff_ne.2 hk.2
  clear hk
  have HB := hid_mk (show Blk (w.alloc (.cells #[.int .i64 x.g.c, .int .i64 x.g.b, .int .i64 x.g.e, .int .i64 x.g.k, .int .i64 x.g.at', .bool x.g.an, .int .i64 x.g.fr, .int .i64 x.g.mo, .int .i64 x.g.nu, .int .i64 x.g.st, .slice xa xn xc, .slice ra x.R.length rc] 42)) w.heap.size #[.int .i64 x.g.c, .int .i64 x.g.b, .int .i64 x.g.e, .int .i64 x.g.k, .int .i64 x.g.at', .bool x.g.an, .int .i64 x.g.fr, .int .i64 x.g.mo, .int .i64 x.g.nu, .int .i64 x.g.st, .slice xa xn xc, .slice ra x.R.length rc] 42 ∧ IsM (w.alloc (.cells #[.int .i64 x.g.c, .int .i64 x.g.b, .int .i64 x.g.e, .int .i64 x.g.k, .int .i64 x.g.at', .bool x.g.an, .int .i64 x.g.fr, .int .i64 x.g.mo, .int .i64 x.g.nu, .int .i64 x.g.st, .slice xa xn xc, .slice ra x.R.length rc] 42)) b vm R s ∧ w.grownBy (w.alloc (.cells #[.int .i64 x.g.c, .int .i64 x.g.b, .int .i64 x.g.e, .int .i64 x.g.k, .int .i64 x.g.at', .bool x.g.an, .int .i64 x.g.fr, .int .i64 x.g.mo, .int .i64 x.g.nu, .int .i64 x.g.st, .slice xa xn xc, .slice ra x.R.length rc] 42)) none from ⟨blk_alloc w _ 42, h.grown (World.grownBy_alloc _ _ none), World.grownBy_alloc _ _ none⟩)
  have HM := hid_mk h
  clear h
  go_enter Try.func23, Try.ntmps23
  go_upto_region 1 with fail
  generalize (w.alloc (.cells #[.int .i64 x.g.c, .int .i64 x.g.b, .int .i64 x.g.e, .int .i64 x.g.k, .int .i64 x.g.at', .bool x.g.an, .int .i64 x.g.fr, .int .i64 x.g.mo, .int .i64 x.g.nu, .int .i64 x.g.st, .slice xa xn xc, .slice ra x.R.length rc] 42)) = w1 at *
  obtain ⟨q, hq⟩ : ∃ q, q = w.heap.size := ⟨_, rfl⟩
  rw [← hq] at HB ⊢
  have HQ := hid_mk hq
  clear hq
  obtain ⟨d0, d1, d2, d3, d4, d5, d6, d7, d8, d9, d10, d11, df⟩ := blk12 HB.out.1
  go_upto_region 6 with fail
  clear d0 d1 d2 d3 d4 d5 d6 d7 d8 d9 d10 d11 df hk1 hk3
  refine wp_region_mix [(0, true), (1, true), (2, true), (3, true), (4, true), (5, true), (6, true), (7, true), (8, true), (9, true), (10, true), (11, true), (12, true), (13, true), (14, true), (15, true), (16, true), (17, true), (18, true), (19, true), (20, true), (21, true), (22, true), (23, false), (24, true), (25, true)] (at0 w1 (fun W => Blk W q #[.int .i64 x.g.c, .int .i64 x.g.b, .int .i64 x.g.e, .int .i64 x.g.k, .int .i64 x.g.at', .bool x.g.an, .int .i64 x.g.fr, .int .i64 x.g.mo, .int .i64 x.g.nu, .int .i64 x.g.st, .slice xa xn xc, .slice ra x.R.length rc] 42 ∧ IsM W b vm R s)) (by kernel_rfl) (by kernel_rfl) rfl (by kernel_rfl) (shut_at0 (fun m => ⟨HB.out.1.kept (grown_drewN _ m none) (by simp), HB.out.2.1.grown (grown_drewN _ m none)⟩)) ⟨1, rfl⟩ ?_
  have HC := hid_mk (fun (W : World) (hW : Blk W q #[.int .i64 x.g.c, .int .i64 x.g.b, .int .i64 x.g.e, .int .i64 x.g.k, .int .i64 x.g.at', .bool x.g.an, .int .i64 x.g.fr, .int .i64 x.g.mo, .int .i64 x.g.nu, .int .i64 x.g.st, .slice xa xn xc, .slice ra x.R.length rc] 42 ∧ IsM W b vm R s) => And.intro (blk12 hW.1) hW.2.cells)
  repeat (refine mix_rd1 rfl rfl (fun K hK => ?_); apply Exists.intro; refine ⟨fun W hW => ?_, ?_⟩; (obtain ⟨⟨d0, d1, d2, d3, d4, d5, d6, d7, d8, d9, d10, d11, df⟩, c0, c1, cf⟩ := HC.out W hW; go_simp; rfl); (go_simp; refine hK _ _ ?_; clear hK K))
  refine mix_rdcall rfl rfl 33 #[.pointer (some ⟨b, 0, none⟩), .int .i64 x.g.fr] (.bool (hasM ⟨s, R.map (·.1)⟩ x.g.fr)) (fun W => by go_simp) (fun W hW => has_any hW.2 x.g.fr) ?_
  rw [HH.out]
  go_simp
  repeat (refine mix_rd1 rfl rfl (fun K hK => ?_); apply Exists.intro; refine ⟨fun W hW => ?_, ?_⟩; (obtain ⟨⟨d0, d1, d2, d3, d4, d5, d6, d7, d8, d9, d10, d11, df⟩, c0, c1, cf⟩ := HC.out W hW; go_simp; rfl); (go_simp; refine hK _ _ ?_; clear hK K))
  refine mix_rdcall rfl rfl 34 #[.pointer (some ⟨b, 0, none⟩)] (.int .i64 n) (fun W => by go_simp) (fun W hW => by have := next_any hW.2; rwa [HSN.out] at this) ?_
  go_simp
  repeat (first | (refine mix_no1 rfl rfl (fun K hK => ?_); go_simp; refine hK _ _ ?_; clear hK K) | (refine mix_rd1 rfl rfl (fun K hK => ?_); apply Exists.intro; refine ⟨fun W hW => ?_, ?_⟩; (obtain ⟨⟨d0, d1, d2, d3, d4, d5, d6, d7, d8, d9, d10, d11, df⟩, c0, c1, cf⟩ := HC.out W hW; go_simp; rfl); (go_simp; refine hK _ _ ?_; clear hK K)))
  refine mix_nil ?_
  rintro W ⟨m1, rfl⟩
  go_wp2_with fail
  go_ret
  exact ⟨rfl, grown_trans HB.out.2.2 (grown_drewN w1 m1 none)⟩
set_option maxHeartbeats 4000000 in
theorem do_get2 {w : World} {b : Nat} {vm : Value} {R : List RV} {s : Nat} (h : IsM w b vm R s) (x : CE) (xa : Option Addr) (xn xc : Nat) (ra : Option Addr) (rc : Nat) (hk : x.g.k ≠ 1 ∧ x.g.k ≠ 3) (hh : hasM ⟨s, R.map (·.1)⟩ x.g.fr = true) (n : Nat) (hsn : s + R.length = n) (hn : (x.g.nu == (n : Int)) = true) (hs : (x.g.st == (s : Int)) = false) :
    Calls Try.prog 23 #[.pointer (some ⟨b, 0, none⟩), .agg #[.int .i64 x.g.c, .int .i64 x.g.b, .int .i64 x.g.e, .int .i64 x.g.k, .int .i64 x.g.at', .bool x.g.an, .int .i64 x.g.fr, .int .i64 x.g.mo, .int .i64 x.g.nu, .int .i64 x.g.st, .slice xa xn xc, .slice ra x.R.length rc]] w fun e w' => e = .returned (.bool false) ∧ w.grownBy w' none := by
  have HH := hid_mk hh
  have HSN := hid_mk hsn
  clear hh hsn
  have hk1 : (x.g.k == 1) = false := beq_eq_false_iff_ne.2 hk.1
  have hk3 : (x.g.k == 3) = false := beq_eq_false_iff_ne.2 hk.2
  clear hk
  have HB := hid_mk (show Blk (w.alloc (.cells #[.int .i64 x.g.c, .int .i64 x.g.b, .int .i64 x.g.e, .int .i64 x.g.k, .int .i64 x.g.at', .bool x.g.an, .int .i64 x.g.fr, .int .i64 x.g.mo, .int .i64 x.g.nu, .int .i64 x.g.st, .slice xa xn xc, .slice ra x.R.length rc] 42)) w.heap.size #[.int .i64 x.g.c, .int .i64 x.g.b, .int .i64 x.g.e, .int .i64 x.g.k, .int .i64 x.g.at', .bool x.g.an, .int .i64 x.g.fr, .int .i64 x.g.mo, .int .i64 x.g.nu, .int .i64 x.g.st, .slice xa xn xc, .slice ra x.R.length rc] 42 ∧ IsM (w.alloc (.cells #[.int .i64 x.g.c, .int .i64 x.g.b, .int .i64 x.g.e, .int .i64 x.g.k, .int .i64 x.g.at', .bool x.g.an, .int .i64 x.g.fr, .int .i64 x.g.mo, .int .i64 x.g.nu, .int .i64 x.g.st, .slice xa xn xc, .slice ra x.R.length rc] 42)) b vm R s ∧ w.grownBy (w.alloc (.cells #[.int .i64 x.g.c, .int .i64 x.g.b, .int .i64 x.g.e, .int .i64 x.g.k, .int .i64 x.g.at', .bool x.g.an, .int .i64 x.g.fr, .int .i64 x.g.mo, .int .i64 x.g.nu, .int .i64 x.g.st, .slice xa xn xc, .slice ra x.R.length rc] 42)) none from ⟨blk_alloc w _ 42, h.grown (World.grownBy_alloc _ _ none), World.grownBy_alloc _ _ none⟩)
  have HM := hid_mk h
  clear h
  go_enter Try.func23, Try.ntmps23
  go_upto_region 1 with fail
  generalize (w.alloc (.cells #[.int .i64 x.g.c, .int .i64 x.g.b, .int .i64 x.g.e, .int .i64 x.g.k, .int .i64 x.g.at', .bool x.g.an, .int .i64 x.g.fr, .int .i64 x.g.mo, .int .i64 x.g.nu, .int .i64 x.g.st, .slice xa xn xc, .slice ra x.R.length rc] 42)) = w1 at *
  obtain ⟨q, hq⟩ : ∃ q, q = w.heap.size := ⟨_, rfl⟩
  rw [← hq] at HB ⊢
  have HQ := hid_mk hq
  clear hq
  obtain ⟨d0, d1, d2, d3, d4, d5, d6, d7, d8, d9, d10, d11, df⟩ := blk12 HB.out.1
  go_upto_region 6 with fail
  clear d0 d1 d2 d3 d4 d5 d6 d7 d8 d9 d10 d11 df hk1 hk3
  refine wp_region_mix [(0, true), (1, true), (2, true), (3, true), (4, true), (5, true), (6, true), (7, true), (8, true), (9, true), (10, true), (11, true), (12, true), (13, true), (14, true), (15, true), (16, true), (17, true), (18, true), (19, true), (20, true), (21, true), (22, true), (23, false), (24, true), (25, true)] (at0 w1 (fun W => Blk W q #[.int .i64 x.g.c, .int .i64 x.g.b, .int .i64 x.g.e, .int .i64 x.g.k, .int .i64 x.g.at', .bool x.g.an, .int .i64 x.g.fr, .int .i64 x.g.mo, .int .i64 x.g.nu, .int .i64 x.g.st, .slice xa xn xc, .slice ra x.R.length rc] 42 ∧ IsM W b vm R s)) (by kernel_rfl) (by kernel_rfl) rfl (by kernel_rfl) (shut_at0 (fun m => ⟨HB.out.1.kept (grown_drewN _ m none) (by simp), HB.out.2.1.grown (grown_drewN _ m none)⟩)) ⟨1, rfl⟩ ?_
  have HC := hid_mk (fun (W : World) (hW : Blk W q #[.int .i64 x.g.c, .int .i64 x.g.b, .int .i64 x.g.e, .int .i64 x.g.k, .int .i64 x.g.at', .bool x.g.an, .int .i64 x.g.fr, .int .i64 x.g.mo, .int .i64 x.g.nu, .int .i64 x.g.st, .slice xa xn xc, .slice ra x.R.length rc] 42 ∧ IsM W b vm R s) => And.intro (blk12 hW.1) hW.2.cells)
  repeat (refine mix_rd1 rfl rfl (fun K hK => ?_); apply Exists.intro; refine ⟨fun W hW => ?_, ?_⟩; (obtain ⟨⟨d0, d1, d2, d3, d4, d5, d6, d7, d8, d9, d10, d11, df⟩, c0, c1, cf⟩ := HC.out W hW; go_simp; rfl); (go_simp; refine hK _ _ ?_; clear hK K))
  refine mix_rdcall rfl rfl 33 #[.pointer (some ⟨b, 0, none⟩), .int .i64 x.g.fr] (.bool (hasM ⟨s, R.map (·.1)⟩ x.g.fr)) (fun W => by go_simp) (fun W hW => has_any hW.2 x.g.fr) ?_
  rw [HH.out]
  go_simp
  repeat (refine mix_rd1 rfl rfl (fun K hK => ?_); apply Exists.intro; refine ⟨fun W hW => ?_, ?_⟩; (obtain ⟨⟨d0, d1, d2, d3, d4, d5, d6, d7, d8, d9, d10, d11, df⟩, c0, c1, cf⟩ := HC.out W hW; go_simp; rfl); (go_simp; refine hK _ _ ?_; clear hK K))
  refine mix_rdcall rfl rfl 34 #[.pointer (some ⟨b, 0, none⟩)] (.int .i64 n) (fun W => by go_simp) (fun W hW => by have := next_any hW.2; rwa [HSN.out] at this) ?_
  go_simp
  repeat (first | (refine mix_no1 rfl rfl (fun K hK => ?_); go_simp; refine hK _ _ ?_; clear hK K) | (refine mix_rd1 rfl rfl (fun K hK => ?_); apply Exists.intro; refine ⟨fun W hW => ?_, ?_⟩; (obtain ⟨⟨d0, d1, d2, d3, d4, d5, d6, d7, d8, d9, d10, d11, df⟩, c0, c1, cf⟩ := HC.out W hW; go_simp; rfl); (go_simp; refine hK _ _ ?_; clear hK K)))
  refine mix_nil ?_
  rintro W ⟨m1, rfl⟩
  go_wp2_with fail
  go_ret
  exact ⟨rfl, grown_trans HB.out.2.2 (grown_drewN w1 m1 none)⟩
set_option maxHeartbeats 4000000 in
theorem do_get3 {w : World} {b : Nat} {vm : Value} {R : List RV} {s : Nat} (h : IsM w b vm R s) (x : CE) (xa : Option Addr) (xn xc : Nat) (ra : Option Addr) (rc : Nat) (hk : x.g.k ≠ 1 ∧ x.g.k ≠ 3) (hh : hasM ⟨s, R.map (·.1)⟩ x.g.fr = true) (n : Nat) (hsn : s + R.length = n) (hn : (x.g.nu == (n : Int)) = true) (hs : (x.g.st == (s : Int)) = true) (rd : ∀ p ∈ R, Byt w p.2 p.1) (hx : RecR w (.slice ra x.R.length rc) x.R) (hl : x.R.length ≤ 5864062014805) :
    Calls Try.prog 23 #[.pointer (some ⟨b, 0, none⟩), .agg #[.int .i64 x.g.c, .int .i64 x.g.b, .int .i64 x.g.e, .int .i64 x.g.k, .int .i64 x.g.at', .bool x.g.an, .int .i64 x.g.fr, .int .i64 x.g.mo, .int .i64 x.g.nu, .int .i64 x.g.st, .slice xa xn xc, .slice ra x.R.length rc]] w fun e w' => e = .returned (.bool (decide (x.R.map (·.1) = getM ⟨s, R.map (·.1)⟩ x.g.fr x.g.mo))) ∧ w.grownBy w' none := by
  have HH := hid_mk hh
  have HF := hid_mk (show (s : Int) ≤ x.g.fr ∧ x.g.fr ≤ ((s + R.length : Nat) : Int) from by simpa [hasM, Mo.next] using hh)
  have HX := hid_mk (And.intro rd (And.intro hx hl))
  have HSN := hid_mk hsn
  clear hh rd hx hl hsn
  have hk1 : (x.g.k == 1) = false := beq_eq_false_iff_ne.2 hk.1
  have hk3 : (x.g.k == 3) = false := beq_eq_false_iff_ne.2 hk.2
  clear hk
  have HB := hid_mk (show Blk (w.alloc (.cells #[.int .i64 x.g.c, .int .i64 x.g.b, .int .i64 x.g.e, .int .i64 x.g.k, .int .i64 x.g.at', .bool x.g.an, .int .i64 x.g.fr, .int .i64 x.g.mo, .int .i64 x.g.nu, .int .i64 x.g.st, .slice xa xn xc, .slice ra x.R.length rc] 42)) w.heap.size #[.int .i64 x.g.c, .int .i64 x.g.b, .int .i64 x.g.e, .int .i64 x.g.k, .int .i64 x.g.at', .bool x.g.an, .int .i64 x.g.fr, .int .i64 x.g.mo, .int .i64 x.g.nu, .int .i64 x.g.st, .slice xa xn xc, .slice ra x.R.length rc] 42 ∧ IsM (w.alloc (.cells #[.int .i64 x.g.c, .int .i64 x.g.b, .int .i64 x.g.e, .int .i64 x.g.k, .int .i64 x.g.at', .bool x.g.an, .int .i64 x.g.fr, .int .i64 x.g.mo, .int .i64 x.g.nu, .int .i64 x.g.st, .slice xa xn xc, .slice ra x.R.length rc] 42)) b vm R s ∧ w.grownBy (w.alloc (.cells #[.int .i64 x.g.c, .int .i64 x.g.b, .int .i64 x.g.e, .int .i64 x.g.k, .int .i64 x.g.at', .bool x.g.an, .int .i64 x.g.fr, .int .i64 x.g.mo, .int .i64 x.g.nu, .int .i64 x.g.st, .slice xa xn xc, .slice ra x.R.length rc] 42)) none from ⟨blk_alloc w _ 42, h.grown (World.grownBy_alloc _ _ none), World.grownBy_alloc _ _ none⟩)
  have HM := hid_mk h
  clear h
  go_enter Try.func23, Try.ntmps23
  go_upto_region 1 with fail
  generalize (w.alloc (.cells #[.int .i64 x.g.c, .int .i64 x.g.b, .int .i64 x.g.e, .int .i64 x.g.k, .int .i64 x.g.at', .bool x.g.an, .int .i64 x.g.fr, .int .i64 x.g.mo, .int .i64 x.g.nu, .int .i64 x.g.st, .slice xa xn xc, .slice ra x.R.length rc] 42)) = w1 at *
  obtain ⟨q, hq⟩ : ∃ q, q = w.heap.size := ⟨_, rfl⟩
  rw [← hq] at HB ⊢
  have HQ := hid_mk hq
  clear hq
  obtain ⟨d0, d1, d2, d3, d4, d5, d6, d7, d8, d9, d10, d11, df⟩ := blk12 HB.out.1
  go_upto_region 6 with fail
  clear d0 d1 d2 d3 d4 d5 d6 d7 d8 d9 d10 d11 df hk1 hk3
  refine wp_region_mix [(0, true), (1, true), (2, true), (3, true), (4, true), (5, true), (6, true), (7, true), (8, true), (9, true), (10, true), (11, true), (12, true), (13, true), (14, true), (15, true), (16, true), (17, true), (18, true), (19, true), (20, true), (21, true), (22, true), (23, false), (24, true), (25, true)] (at0 w1 (fun W => Blk W q #[.int .i64 x.g.c, .int .i64 x.g.b, .int .i64 x.g.e, .int .i64 x.g.k, .int .i64 x.g.at', .bool x.g.an, .int .i64 x.g.fr, .int .i64 x.g.mo, .int .i64 x.g.nu, .int .i64 x.g.st, .slice xa xn xc, .slice ra x.R.length rc] 42 ∧ IsM W b vm R s)) (by kernel_rfl) (by kernel_rfl) rfl (by kernel_rfl) (shut_at0 (fun m => ⟨HB.out.1.kept (grown_drewN _ m none) (by simp), HB.out.2.1.grown (grown_drewN _ m none)⟩)) ⟨1, rfl⟩ ?_
  have HC := hid_mk (fun (W : World) (hW : Blk W q #[.int .i64 x.g.c, .int .i64 x.g.b, .int .i64 x.g.e, .int .i64 x.g.k, .int .i64 x.g.at', .bool x.g.an, .int .i64 x.g.fr, .int .i64 x.g.mo, .int .i64 x.g.nu, .int .i64 x.g.st, .slice xa xn xc, .slice ra x.R.length rc] 42 ∧ IsM W b vm R s) => And.intro (blk12 hW.1) hW.2.cells)
  repeat (refine mix_rd1 rfl rfl (fun K hK => ?_); apply Exists.intro; refine ⟨fun W hW => ?_, ?_⟩; (obtain ⟨⟨d0, d1, d2, d3, d4, d5, d6, d7, d8, d9, d10, d11, df⟩, c0, c1, cf⟩ := HC.out W hW; go_simp; rfl); (go_simp; refine hK _ _ ?_; clear hK K))
  refine mix_rdcall rfl rfl 33 #[.pointer (some ⟨b, 0, none⟩), .int .i64 x.g.fr] (.bool (hasM ⟨s, R.map (·.1)⟩ x.g.fr)) (fun W => by go_simp) (fun W hW => has_any hW.2 x.g.fr) ?_
  rw [HH.out]
  go_simp
  repeat (refine mix_rd1 rfl rfl (fun K hK => ?_); apply Exists.intro; refine ⟨fun W hW => ?_, ?_⟩; (obtain ⟨⟨d0, d1, d2, d3, d4, d5, d6, d7, d8, d9, d10, d11, df⟩, c0, c1, cf⟩ := HC.out W hW; go_simp; rfl); (go_simp; refine hK _ _ ?_; clear hK K))
  refine mix_rdcall rfl rfl 34 #[.pointer (some ⟨b, 0, none⟩)] (.int .i64 n) (fun W => by go_simp) (fun W hW => by have := next_any hW.2; rwa [HSN.out] at this) ?_
  go_simp
  repeat (refine mix_rd1 rfl rfl (fun K hK => ?_); apply Exists.intro; refine ⟨fun W hW => ?_, ?_⟩; (obtain ⟨⟨d0, d1, d2, d3, d4, d5, d6, d7, d8, d9, d10, d11, df⟩, c0, c1, cf⟩ := HC.out W hW; go_simp; rfl); (go_simp; refine hK _ _ ?_; clear hK K))
  refine mix_call rfl rfl 35 #[.pointer (some ⟨b, 0, none⟩), .agg #[.int .i64 x.g.c, .int .i64 x.g.b, .int .i64 x.g.e, .int .i64 x.g.k, .int .i64 x.g.at', .bool x.g.an, .int .i64 x.g.fr, .int .i64 x.g.mo, .int .i64 x.g.nu, .int .i64 x.g.st, .slice xa xn xc, .slice ra x.R.length rc]] (fun W0 => by go_simp) ?_
  rintro W0 ⟨m0, rfl⟩
  have g0 := grown_trans HB.out.2.2 (grown_drewN w1 m0 none)
  refine (tells_any (HM.out.grown g0) (fun p hp => (HX.out.1 p hp).kept g0) x xa xn xc ra rc (HX.out.2.1.kept g0) HX.out.2.2 HF.out).mono ?_
  rintro e W2 ⟨rfl, h2⟩
  have H2 := hid_mk (And.intro h2 (grown_trans g0 h2))
  clear h2 g0
  refine ⟨_, rfl, at0 W2 (fun W => Blk W q #[.int .i64 x.g.c, .int .i64 x.g.b, .int .i64 x.g.e, .int .i64 x.g.k, .int .i64 x.g.at', .bool x.g.an, .int .i64 x.g.fr, .int .i64 x.g.mo, .int .i64 x.g.nu, .int .i64 x.g.st, .slice xa xn xc, .slice ra x.R.length rc] 42 ∧ IsM W b vm R s), ⟨0, rfl⟩, shut_at0 (fun m => ⟨((HB.out.1.kept (grown_drewN w1 m0 none) (by simp)).kept H2.out.1 (by simp)).kept (grown_drewN _ m none) (by simp), ((HB.out.2.1.grown (grown_drewN w1 m0 none)).grown H2.out.1).grown (grown_drewN _ m none)⟩), fun _ h => h, ?_⟩
  go_simp
  repeat (refine mix_rd1 rfl rfl (fun K hK => ?_); apply Exists.intro; refine ⟨fun W hW => ?_, ?_⟩; (obtain ⟨⟨d0, d1, d2, d3, d4, d5, d6, d7, d8, d9, d10, d11, df⟩, c0, c1, cf⟩ := HC.out W hW; go_simp; rfl); (go_simp; refine hK _ _ ?_; clear hK K))
  refine mix_nil ?_
  rintro W ⟨m1, rfl⟩
  go_wp2_with fail
  go_ret
  exact ⟨rfl, grown_trans H2.out.2 (grown_drewN W2 m1 none)⟩
/-- What do does. -/
def DoP (w w' : World) (b : Nat) (vm : Value) (R : List RV) (s : Nat) (x : CE) : Prop := ∃ vm' R' s', IsM w' b vm' R' s' ∧ MP w w' b vm vm' ∧ Mo.mk s' (R'.map (·.1)) = doM ⟨s, R.map (·.1)⟩ x.g ∧ (∀ p ∈ R', p ∈ R ∨ p = (x.g.d, x.vd)) ∧ s' + R'.length ≤ s + R.length + 1
theorem do_any {w : World} {b : Nat} {vm : Value} {R : List RV} {s : Nat} (h : IsM w b vm R s) (rd : ∀ p ∈ R, Byt w p.2 p.1) (x : CE) (hx : InC w x) (hl : x.R.length ≤ 5864062014805) (hf : s + R.length + 1 ≤ 5864062014805) :
    Calls Try.prog 23 #[.pointer (some ⟨b, 0, none⟩), .agg (calC x).toArray] w fun e w' => e = .returned (.bool (fitsM ⟨s, R.map (·.1)⟩ x.g)) ∧ DoP w w' b vm R s x := by
  obtain ⟨xa, xc, hxd⟩ := hx.d.len
  obtain ⟨ra, rc, hxr⟩ := hx.r.len
  have hr := hx.r
  have hrs := hx.rs
  unfold DoP calC
  rw [hxr] at hr
  rw [hxd, hxr]
  clear hx
  by_cases h1 : x.g.k = 1
  · exact do_put h x xa _ xc ra rc h1 hf
  · by_cases h3 : x.g.k = 3
    · exact do_trim h x xa _ xc ra rc h3
    · have hfit : fitsM ⟨s, R.map (·.1)⟩ x.g = (hasM ⟨s, R.map (·.1)⟩ x.g.fr && decide (x.g.rs = getM ⟨s, R.map (·.1)⟩ x.g.fr x.g.mo) && decide (x.g.nu = ((s + R.length : Nat) : Int)) && decide (x.g.st = (s : Int))) := by
        unfold fitsM; rw [if_neg h1, if_neg h3]; simp [Mo.next]
      have hdo : doM ⟨s, R.map (·.1)⟩ x.g = ⟨s, R.map (·.1)⟩ := by unfold doM; rw [if_neg h1, if_neg h3]
      rw [hfit, hdo]
      have fin : ∀ {w' : World}, w.grownBy w' none → ∃ vm' R' s', IsM w' b vm' R' s' ∧ MP w w' b vm vm' ∧ Mo.mk s' (R'.map (·.1)) = ⟨s, R.map (·.1)⟩ ∧ (∀ p ∈ R', p ∈ R ∨ p = (x.g.d, .slice xa x.g.d.length xc)) ∧ s' + R'.length ≤ s + R.length + 1 :=
        fun hg => ⟨vm, R, s, h.grown hg, MP.of_grown hg, rfl, fun p hp => .inl hp, by omega⟩
      cases hh : hasM ⟨s, R.map (·.1)⟩ x.g.fr
      · refine (do_get0 h x xa _ xc ra rc ⟨h1, h3⟩ hh).mono ?_
        rintro e w' ⟨rfl, hg⟩
        exact ⟨by simp, fin hg⟩
      · by_cases hn : x.g.nu = ((s + R.length : Nat) : Int)
        · by_cases hs : x.g.st = (s : Int)
          · refine (do_get3 h x xa _ xc ra rc ⟨h1, h3⟩ hh _ rfl (by simp [hn]) (by simp [hs]) rd hr hl).mono ?_
            rintro e w' ⟨rfl, hg⟩
            exact ⟨by rw [hrs]; simp [hn, hs], fin hg⟩
          · refine (do_get2 h x xa _ xc ra rc ⟨h1, h3⟩ hh _ rfl (by simp [hn]) (by simp [hs])).mono ?_
            rintro e w' ⟨rfl, hg⟩
            exact ⟨by simp [hs], fin hg⟩
        · refine (do_get1 h x xa _ xc ra rc ⟨h1, h3⟩ hh _ rfl (beq_eq_false_iff_ne.2 hn)).mono ?_
          rintro e w' ⟨rfl, hg⟩
          exact ⟨by rw [decide_eq_false hn]; simp, fin hg⟩
end Go.Proofs.Ythbfjpaimnhpgab
