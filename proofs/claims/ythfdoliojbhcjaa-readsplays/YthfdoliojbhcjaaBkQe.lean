/- reads: step: a call on both. -/
import Derived.Test.YthfdoliojbhcjaaBkQd
namespace Go.Proofs.Ythfdoliojbhcjaa
open Go.RowKit Go.Maps
set_option linter.unusedVariables false
set_option linter.unusedSimpArgs false
set_option maxRecDepth 100000

theorem do_copyi {W0 : World} {B g : Nat} {v : Value} {l : List Int} {o : Oper} {a : Act} {K : Value → World → Prop} (s y : Operand) (ho : o.op = .call { callee := .builtin .append, args := #[s, y], argTypes := #[32, 32] }) (hs : a.eval s = .slice (some ⟨g, 0, none⟩) 0 0) (hy : a.eval y = v)
    (hown : W0.ownsRow B 3 1 (.slice (some ⟨g, 0, none⟩) 0 0) 0 []) (hB : B ≤ W0.heap.size) (h : IntsR W0 v l) (hl : l.length ≤ 17592186044416) (hK : ∀ a' c' W', OwnI W' B (.slice a' l.length c') l → W0.grownBy W' (some g) → K (.slice a' l.length c') W') : ∃ v w'', (execOp a.eval o).run Try.prog W0 = .ok (.value v) w'' ∧ K v w'' := by
  obtain ⟨a', c', W', h1, h2, h3⟩ := exec_copyi s y ho hs hy hown hB h hl
  exact ⟨_, W', h1, hK a' c' W' h2 h3⟩
/-- Behind a step. -/
def SP (w W W' : World) (b r : Nat) (vb vr : Value) : Prop := ∃ vb' vr' g' d', Mid w W W' b r vb vr vb' vr' g' d' ∧ Rel g' d'
theorem box_cells {W1 : World} {q : Nat} {k ao bo co : Int} {sv : Value} (h : Blk W1 q #[.int .i64 k, .int .i64 ao, .int .i64 bo, .int .i64 co, sv] 34) : W1.cell? ⟨q, 0, none⟩ = some (.int .i64 k) ∧ W1.cell? ⟨q, 1, none⟩ = some (.int .i64 ao) ∧ W1.cell? ⟨q, 2, none⟩ = some (.int .i64 bo) ∧ W1.cell? ⟨q, 3, none⟩ = some (.int .i64 co) ∧ W1.cell? ⟨q, 4, none⟩ = some sv := ⟨by rw [h.cell]; rfl, by rw [h.cell]; rfl, by rw [h.cell]; rfl, by rw [h.cell]; rfl, by rw [h.cell]; rfl⟩
set_option maxHeartbeats 8000000 in
theorem step_any {w W : World} {b r : Nat} {vb vr : Value} {g d : Bk} (hm : Mine w W b vb g) (hd : IsD W w.heap.size r vr d) (hR : Rel g d) (k ao bo co : Int) (sv : Value) (S : List Int) (hS : Nums w sv S) (h1 : bo ≤ 9223372036854775807) (h2 : co ≤ 9223372036854775807) :
    Calls Try.prog 12 #[.pointer (some ⟨b, 0, none⟩), .pointer (some ⟨r, 0, none⟩), .agg #[.int .i64 k, .int .i64 ao, .int .i64 bo, .int .i64 co, sv]] W fun e W' => e = .returned (.bool true) ∧ SP w W W' b r vb vr := by
  obtain ⟨oa, oc, rfl⟩ := hS.1.len
  have gA := World.grownBy_alloc W (.cells #[.int .i64 k, .int .i64 ao, .int .i64 bo, .int .i64 co, .slice oa S.length oc] 34) none
  have H0 := hid_mk (show Mid w W (W.alloc (.cells #[.int .i64 k, .int .i64 ao, .int .i64 bo, .int .i64 co, .slice oa S.length oc] 34)) b r vb vr vb vr g d ∧ Blk (W.alloc (.cells #[.int .i64 k, .int .i64 ao, .int .i64 bo, .int .i64 co, .slice oa S.length oc] 34)) W.heap.size #[.int .i64 k, .int .i64 ao, .int .i64 bo, .int .i64 co, .slice oa S.length oc] 34 from
    ⟨(Mid.mk hm hd (Keeps.refl _ _) (fun k e => .inl e) : Mid w W W b r vb vr vb vr g d).kept gA, heap_alloc_new _ _⟩)
  have HN := hid_mk (And.intro hS (And.intro h1 h2))
  have HRel := hid_mk hR
  clear gA hm hd hS hR h1 h2
  obtain ⟨q, hq⟩ : ∃ q, q = W.heap.size := ⟨_, rfl⟩
  go_enter Try.func12, Try.ntmps12
  go_upto_region 2 with fail
  rw [← hq] at H0
  rw [← hq]
  clear hq
  generalize W.alloc (.cells #[.int .i64 k, .int .i64 ao, .int .i64 bo, .int .i64 co, .slice oa S.length oc] 34) = w1 at *
  obtain ⟨f0, f1, f2, f3, f4⟩ := box_cells H0.out.2
  by_cases hk : k = 0
  · subst hk
    have HCL := hid_mk (fun (W0 : World) (h : Blk W0 q #[.int .i64 0, .int .i64 ao, .int .i64 bo, .int .i64 co, .slice oa S.length oc] 34) => box_cells h)
    go_upto_region 4 with fail
    clear f0 f1 f2 f3 f4
    refine wp_region_mix [(0, true), (1, true), (2, true), (3, true), (4, true), (5, true), (6, true), (9, true), (10, true), (11, true), (12, true), (13, true), (14, true), (15, true), (7, false), (8, false), (16, false), (17, true), (18, true)] (at0 w1 (fun W0 => Blk W0 q #[.int .i64 0, .int .i64 ao, .int .i64 bo, .int .i64 co, .slice oa S.length oc] 34)) (by kernel_rfl) (by kernel_rfl) rfl (by kernel_rfl) (shut_at0 (fun m => H0.out.2.kept (grown_drewN _ m none) (by simp))) ⟨1, rfl⟩ ?_
    repeat (refine mix_rd1 rfl rfl (fun K hK => ?_); apply Exists.intro; refine ⟨fun W0 hW => ?_, ?_⟩; (obtain ⟨f0, f1, f2, f3, f4⟩ := HCL.out W0 hW; go_simp; rfl); (go_simp; refine hK _ _ ?_; clear hK K))
    refine mix_call rfl rfl 13 #[.pointer (some ⟨b, 0, none⟩), .int .i64 ao, .int .i64 bo, .int .i64 co] (fun W0 => by go_simp) ?_
    rintro W0 ⟨m3, rfl⟩
    have HD := hid_mk (And.intro (H0.out.1.kept (grown_drewN w1 m3 none)) (H0.out.2.kept (grown_drewN w1 m3 none) (by simp)))
    refine (ask_any HD.out.1.mb.1 ao bo co HN.out.2.2).mono ?_
    rintro e w3 ⟨rfl, hb3⟩
    have hq3 := boxB HD.out.1.mb.1 HD.out.2 hb3
    obtain ⟨vb3, hm3⟩ := HD.out.1.bp hb3
    have H3 := hid_mk (And.intro hm3 hq3)
    clear hb3 hq3 hm3 HD
    refine ⟨_, rfl, (at0 w3 (fun W0 => Blk W0 q #[.int .i64 0, .int .i64 ao, .int .i64 bo, .int .i64 co, .slice oa S.length oc] 34)), ⟨0, rfl⟩, shut_at0 (fun m => H3.out.2.kept (grown_drewN _ m none) (by simp)), fun _ h => h, ?_⟩
    refine mix_call rfl rfl 10 #[.int .i64 (askE g ao bo co) ] (fun W0 => by go_simp) ?_
    rintro W0 ⟨m4, rfl⟩
    refine (num_any _ _).mono ?_
    rintro e w4 ⟨rfl, rfl⟩
    have H4 := hid_mk (And.intro (H3.out.1.kept (grown_drewN w3 m4 none)) (H3.out.2.kept (grown_drewN w3 m4 none) (by simp)))
    refine ⟨_, rfl, (at0 (w3.drewN m4) (fun W0 => Blk W0 q #[.int .i64 0, .int .i64 ao, .int .i64 bo, .int .i64 co, .slice oa S.length oc] 34)), ⟨0, rfl⟩, shut_at0 (fun m => H4.out.2.kept (grown_drewN _ m none) (by simp)), fun _ h => h, ?_⟩
    refine mix_call rfl rfl 22 #[.pointer (some ⟨r, 0, none⟩), .int .i64 ao, .int .i64 bo, .int .i64 co] (fun W0 => by go_simp) ?_
    rintro W0 ⟨m5, rfl⟩
    have HD := hid_mk (And.intro (H4.out.1.kept (grown_drewN _ m5 none)) (H4.out.2.kept (grown_drewN _ m5 none) (by simp)))
    clear H3 H4
    generalize (w3.drewN m4).drewN m5 = w5 at *
    refine (rask_any HD.out.1.md ao bo co).mono ?_
    rintro e w6 ⟨rfl, hb6⟩
    have hq6 := boxD HD.out.1.md HD.out.2 hb6
    obtain ⟨vr6, hm6⟩ := HD.out.1.dp hb6
    have H6 := hid_mk (And.intro hm6 hq6)
    clear hb6 hq6 hm6 HD
    refine ⟨_, rfl, (at0 w6 (fun W0 => Blk W0 q #[.int .i64 0, .int .i64 ao, .int .i64 bo, .int .i64 co, .slice oa S.length oc] 34)), ⟨0, rfl⟩, shut_at0 (fun m => H6.out.2.kept (grown_drewN _ m none) (by simp)), fun _ h => h, ?_⟩
    rw [← HRel.out.askE]
    repeat (refine mix_rd1 rfl rfl (fun K hK => ?_); apply Exists.intro; refine ⟨fun W0 hW => ?_, ?_⟩; (obtain ⟨f0, f1, f2, f3, f4⟩ := HCL.out W0 hW; go_simp; rfl); (go_simp; refine hK _ _ ?_; clear hK K))
    refine mix_nil ?_
    rintro W1 ⟨m7, rfl⟩
    obtain ⟨vb9, hvb9⟩ : ∃ x, x = vb3 := ⟨_, rfl⟩
    obtain ⟨vr9, hvr9⟩ : ∃ x, x = vr6 := ⟨_, rfl⟩
    have H9 := hid_mk (show Mid w W (w6.drewN m7) b r vb vr vb9 vr9 (askG g ao bo co) (askG d ao bo co) ∧ Rel (askG g ao bo co) (askG d ao bo co) from ⟨by rw [hvb9, hvr9]; exact H6.out.1.kept (grown_drewN _ _ none), HRel.out.askG ao bo co⟩)
    clear H6 hvb9 hvr9 HCL
    generalize w6.drewN m7 = wy at *
    generalize askG g ao bo co = g9 at *
    generalize askG d ao bo co = d9 at *
    generalize askE g ao bo co = ee at *
    go_wp2_with fail
    refine (waiting_any H9.out.1.mb.1).mono ?_
    rintro e w7 ⟨u7, rfl, hu7, hg7⟩
    obtain ⟨ua, uc, rfl⟩ := hu7.len
    have H7 := hid_mk (And.intro (H9.out.1.kept hg7) hu7)
    clear hu7 hg7
    go_wp2_with fail
    refine (rwaiting_any H7.out.1.md).mono ?_
    rintro e w8 ⟨u8, rfl, hu8, hg8⟩
    obtain ⟨xa, xc, rfl⟩ := hu8.len
    have H8 := hid_mk (show Mid w W w8 b r vb vr vb9 vr9 g9 d9 ∧ IntsR w8 (.slice ua (ids g9.L).length uc) (ids g9.L) ∧ IntsR w8 (.slice xa (ids d9.L).length xc) (ids g9.L) ∧ (ids g9.L).length ≤ 17592186044416 from ⟨H7.out.1.kept hg8, (H7.out.2.kept hg8).ints, by have := hu8.ints; rwa [← H9.out.2.L] at this ⊢, by have := H9.out.1.mb.1.ok.few; simp [ids]; omega⟩)
    clear hu8 hg8
    go_wp2_with fail
    refine (ints_same _ _ (ids g9.L) w8 H8.out.2.1 H8.out.2.2.1 H8.out.2.2.2).mono ?_
    rintro e wz ⟨rfl, hgz⟩
    have HZ := hid_mk (H8.out.1.kept hgz)
    clear hgz
    go_wp2_with fail
    go_ret
    exact ⟨rfl, _, _, _, _, HZ.out, H9.out.2⟩
  · have hk0 : (k == 0) = false := beq_eq_false_iff_ne.2 hk
    by_cases hk1 : k = 1
    · subst hk1
      have HCL := hid_mk (fun (W0 : World) (h : Blk W0 q #[.int .i64 1, .int .i64 ao, .int .i64 bo, .int .i64 co, .slice oa S.length oc] 34) => box_cells h)
      go_upto_region 6 with fail
      clear f0 f1 f2 f3 f4
      refine wp_region_mix [(0, true), (1, true), (2, true), (3, true), (4, true), (7, true), (8, true), (9, true), (10, true), (11, true), (5, false), (6, false), (12, false), (13, true), (14, true)] (at0 w1 (fun W0 => Blk W0 q #[.int .i64 1, .int .i64 ao, .int .i64 bo, .int .i64 co, .slice oa S.length oc] 34)) (by kernel_rfl) (by kernel_rfl) rfl (by kernel_rfl) (shut_at0 (fun m => H0.out.2.kept (grown_drewN _ m none) (by simp))) ⟨1, rfl⟩ ?_
      repeat (refine mix_rd1 rfl rfl (fun K hK => ?_); apply Exists.intro; refine ⟨fun W0 hW => ?_, ?_⟩; (obtain ⟨f0, f1, f2, f3, f4⟩ := HCL.out W0 hW; go_simp; rfl); (go_simp; refine hK _ _ ?_; clear hK K))
      refine mix_call rfl rfl 14 #[.pointer (some ⟨b, 0, none⟩), .int .i64 ao, .int .i64 bo] (fun W0 => by go_simp) ?_
      rintro W0 ⟨m3, rfl⟩
      have HD := hid_mk (And.intro (H0.out.1.kept (grown_drewN w1 m3 none)) (H0.out.2.kept (grown_drewN w1 m3 none) (by simp)))
      refine (heard_any HD.out.1.mb.1 ao bo HN.out.2.1).mono ?_
      rintro e w3 ⟨rfl, hb3⟩
      have hq3 := boxB HD.out.1.mb.1 HD.out.2 hb3
      obtain ⟨vb3, hm3⟩ := HD.out.1.bp hb3
      have H3 := hid_mk (And.intro hm3 hq3)
      clear hb3 hq3 hm3 HD
      refine ⟨_, rfl, (at0 w3 (fun W0 => Blk W0 q #[.int .i64 1, .int .i64 ao, .int .i64 bo, .int .i64 co, .slice oa S.length oc] 34)), ⟨0, rfl⟩, shut_at0 (fun m => H3.out.2.kept (grown_drewN _ m none) (by simp)), fun _ h => h, ?_⟩
      refine mix_call rfl rfl 10 #[.int .i64 (hearE ao bo) ] (fun W0 => by go_simp) ?_
      rintro W0 ⟨m4, rfl⟩
      refine (num_any _ _).mono ?_
      rintro e w4 ⟨rfl, rfl⟩
      have H4 := hid_mk (And.intro (H3.out.1.kept (grown_drewN w3 m4 none)) (H3.out.2.kept (grown_drewN w3 m4 none) (by simp)))
      refine ⟨_, rfl, (at0 (w3.drewN m4) (fun W0 => Blk W0 q #[.int .i64 1, .int .i64 ao, .int .i64 bo, .int .i64 co, .slice oa S.length oc] 34)), ⟨0, rfl⟩, shut_at0 (fun m => H4.out.2.kept (grown_drewN _ m none) (by simp)), fun _ h => h, ?_⟩
      refine mix_call rfl rfl 23 #[.pointer (some ⟨r, 0, none⟩), .int .i64 ao, .int .i64 bo] (fun W0 => by go_simp) ?_
      rintro W0 ⟨m5, rfl⟩
      have HD := hid_mk (And.intro (H4.out.1.kept (grown_drewN _ m5 none)) (H4.out.2.kept (grown_drewN _ m5 none) (by simp)))
      clear H3 H4
      generalize (w3.drewN m4).drewN m5 = w5 at *
      refine (rhear_any HD.out.1.md ao bo).mono ?_
      rintro e w6 ⟨rfl, hb6⟩
      have hq6 := boxD HD.out.1.md HD.out.2 hb6
      obtain ⟨vr6, hm6⟩ := HD.out.1.dp hb6
      have H6 := hid_mk (And.intro hm6 hq6)
      clear hb6 hq6 hm6 HD
      refine ⟨_, rfl, (at0 w6 (fun W0 => Blk W0 q #[.int .i64 1, .int .i64 ao, .int .i64 bo, .int .i64 co, .slice oa S.length oc] 34)), ⟨0, rfl⟩, shut_at0 (fun m => H6.out.2.kept (grown_drewN _ m none) (by simp)), fun _ h => h, ?_⟩

      repeat (refine mix_rd1 rfl rfl (fun K hK => ?_); apply Exists.intro; refine ⟨fun W0 hW => ?_, ?_⟩; (obtain ⟨f0, f1, f2, f3, f4⟩ := HCL.out W0 hW; go_simp; rfl); (go_simp; refine hK _ _ ?_; clear hK K))
      refine mix_nil ?_
      rintro W1 ⟨m7, rfl⟩
      obtain ⟨vb9, hvb9⟩ : ∃ x, x = vb3 := ⟨_, rfl⟩
      obtain ⟨vr9, hvr9⟩ : ∃ x, x = vr6 := ⟨_, rfl⟩
      have H9 := hid_mk (show Mid w W (w6.drewN m7) b r vb vr vb9 vr9 (hearG g ao bo) (hearG d ao bo) ∧ Rel (hearG g ao bo) (hearG d ao bo) from ⟨by rw [hvb9, hvr9]; exact H6.out.1.kept (grown_drewN _ _ none), HRel.out.hearG H0.out.1.md.ok.len H0.out.1.md.ok.me ao bo HN.out.2.1⟩)
      clear H6 hvb9 hvr9 HCL
      generalize w6.drewN m7 = wy at *
      generalize hearG g ao bo = g9 at *
      generalize hearG d ao bo = d9 at *
      generalize hearE ao bo = ee at *
      go_wp2_with fail
      refine (waiting_any H9.out.1.mb.1).mono ?_
      rintro e w7 ⟨u7, rfl, hu7, hg7⟩
      obtain ⟨ua, uc, rfl⟩ := hu7.len
      have H7 := hid_mk (And.intro (H9.out.1.kept hg7) hu7)
      clear hu7 hg7
      go_wp2_with fail
      refine (rwaiting_any H7.out.1.md).mono ?_
      rintro e w8 ⟨u8, rfl, hu8, hg8⟩
      obtain ⟨xa, xc, rfl⟩ := hu8.len
      have H8 := hid_mk (show Mid w W w8 b r vb vr vb9 vr9 g9 d9 ∧ IntsR w8 (.slice ua (ids g9.L).length uc) (ids g9.L) ∧ IntsR w8 (.slice xa (ids d9.L).length xc) (ids g9.L) ∧ (ids g9.L).length ≤ 17592186044416 from ⟨H7.out.1.kept hg8, (H7.out.2.kept hg8).ints, by have := hu8.ints; rwa [← H9.out.2.L] at this ⊢, by have := H9.out.1.mb.1.ok.few; simp [ids]; omega⟩)
      clear hu8 hg8
      go_wp2_with fail
      refine (ints_same _ _ (ids g9.L) w8 H8.out.2.1 H8.out.2.2.1 H8.out.2.2.2).mono ?_
      rintro e wz ⟨rfl, hgz⟩
      have HZ := hid_mk (H8.out.1.kept hgz)
      clear hgz
      go_wp2_with fail
      go_ret
      exact ⟨rfl, _, _, _, _, HZ.out, H9.out.2⟩
    · have hk10 : (k == 1) = false := beq_eq_false_iff_ne.2 hk1
      by_cases hk2 : k = 2
      · subst hk2
        have HCL := hid_mk (fun (W0 : World) (h : Blk W0 q #[.int .i64 2, .int .i64 ao, .int .i64 bo, .int .i64 co, .slice oa S.length oc] 34) => box_cells h)
        go_upto_region 8 with fail
        clear f0 f1 f2 f3 f4
        refine wp_region_mix [(0, true), (2, true), (3, true), (6, true), (7, true), (8, true), (1, false), (4, false), (5, false), (9, false), (10, false), (11, true)] (at0 w1 (fun W0 => Blk W0 q #[.int .i64 2, .int .i64 ao, .int .i64 bo, .int .i64 co, .slice oa S.length oc] 34)) (by kernel_rfl) (by kernel_rfl) rfl (by kernel_rfl) (shut_at0 (fun m => H0.out.2.kept (grown_drewN _ m none) (by simp))) ⟨1, rfl⟩ ?_
        repeat (refine mix_rd1 rfl rfl (fun K hK => ?_); apply Exists.intro; refine ⟨fun W0 hW => ?_, ?_⟩; (obtain ⟨f0, f1, f2, f3, f4⟩ := HCL.out W0 hW; go_simp; rfl); (go_simp; refine hK _ _ ?_; clear hK K))
        refine mix_do rfl rfl ?_
        rintro W0 ⟨m2, rfl⟩
        refine ⟨.slice (some ⟨w1.heap.size, 0, none⟩) 0 0, (w1.drewN m2).alloc (.cells #[] 3), by go_simp, ?_⟩
        have gA := grown_trans (grown_drewN w1 m2 none) (World.grownBy_alloc (w1.drewN m2) (.cells #[] 3) none)
        have HA := hid_mk (show w1.grownBy ((w1.drewN m2).alloc (.cells #[] 3)) none ∧ ((w1.drewN m2).alloc (.cells #[] 3)).ownsRow w1.heap.size 3 1 (.slice (some ⟨w1.heap.size, 0, none⟩) 0 0) 0 [] from ⟨gA, World.ownsRow_made (e := 3) (size := 1) (base := w1.heap.size) (w1.drewN m2) #[] 0 (Nat.le_refl _) (by unfold maxLen; omega) (by simp)⟩)
        clear gA
        generalize (w1.drewN m2).alloc (.cells #[] 3) = w2 at *
        refine ⟨(at0 w2 (fun W0 => Blk W0 q #[.int .i64 2, .int .i64 ao, .int .i64 bo, .int .i64 co, .slice oa S.length oc] 34)), ⟨0, rfl⟩, shut_at0 (fun m => (H0.out.2.kept HA.out.1 (by simp)).kept (grown_drewN _ m none) (by simp)), fun _ h => h, ?_⟩
        go_simp
        refine mix_do rfl rfl ?_
        rintro W0 ⟨m3, rfl⟩
        refine do_copyi (B := w1.heap.size) (g := w1.heap.size) (v := .slice oa S.length oc) (l := S) (.tmp 49) (.tmp 51) rfl rfl rfl (owns_kept HA.out.2 (grown_drewN _ m3 none) (fun _ _ _ => by simp)) HA.out.1.size (((HN.out.1.1.kept H0.out.1.mb.2).kept HA.out.1).kept (grown_drewN _ m3 none)) HN.out.1.2.2 ?_
        intro a3 c3 w3 ho3 hg3
        have HG3 := hid_mk (show w1.grownBy w3 none from grown_new (grown_trans HA.out.1 (grown_drewN _ m3 none)) hg3 (Nat.le_refl _))
        have H3 := hid_mk (And.intro (H0.out.1.kept HG3.out) (And.intro (H0.out.2.kept HG3.out (by simp)) (show Nums w3 (.slice a3 S.length c3) S from ⟨ho3.ints, HN.out.1.2⟩)))
        clear ho3 hg3 HA
        refine ⟨(at0 w3 (fun W0 => Blk W0 q #[.int .i64 2, .int .i64 ao, .int .i64 bo, .int .i64 co, .slice oa S.length oc] 34)), ⟨0, rfl⟩, shut_at0 (fun m => H3.out.2.1.kept (grown_drewN _ m none) (by simp)), fun _ h => h, ?_⟩
        refine mix_call rfl rfl 15 #[.pointer (some ⟨b, 0, none⟩), .slice a3 S.length c3] (fun W0 => by go_simp) ?_
        rintro W0 ⟨m4, rfl⟩
        have HD := hid_mk (And.intro (H3.out.1.kept (grown_drewN w3 m4 none)) (And.intro (H3.out.2.1.kept (grown_drewN w3 m4 none) (by simp)) (H3.out.2.2.kept (grown_drewN w3 m4 none))))
        clear H3 HG3
        generalize w3.drewN m4 = w4 at *
        refine (ready_any HD.out.1.mb.1 S _ HD.out.2.2).mono ?_
        rintro e w5 ⟨u5, rfl, hu5, hb5⟩
        have hq5 := boxB HD.out.1.mb.1 HD.out.2.1 hb5
        obtain ⟨vb5, hm5⟩ := HD.out.1.bp hb5
        have H5 := hid_mk (show Mid w W w5 b r vb vr vb5 vr (leftB S g) d ∧ Blk w5 q #[.int .i64 2, .int .i64 ao, .int .i64 bo, .int .i64 co, .slice oa S.length oc] 34 ∧ OwnY 50 w5 w4.heap.size u5 (doneB S g) from ⟨hm5, hq5, hu5⟩)
        clear hu5 hb5 hq5 hm5 HD
        refine ⟨_, rfl, (at0 w5 (fun W0 => Blk W0 q #[.int .i64 2, .int .i64 ao, .int .i64 bo, .int .i64 co, .slice oa S.length oc] 34)), ⟨0, rfl⟩, shut_at0 (fun m => H5.out.2.1.kept (grown_drewN _ m none) (by simp)), fun _ h => h, ?_⟩
        refine mix_call rfl rfl 25 #[.pointer (some ⟨r, 0, none⟩), .slice oa S.length oc] (fun W0 => by go_simp) ?_
        rintro W0 ⟨m6, rfl⟩
        have HD := hid_mk (And.intro (H5.out.1.kept (grown_drewN w5 m6 none)) (And.intro (H5.out.2.1.kept (grown_drewN w5 m6 none) (by simp)) (show OwnY 50 (w5.drewN m6) w4.heap.size u5 (doneB S g) from owns_kept H5.out.2.2 (grown_drewN _ _ none) (fun _ _ _ => by simp))))
        clear H5
        generalize w5.drewN m6 = w6 at *
        refine (rready_any HD.out.1.md S _ (HN.out.1.kept HD.out.1.mb.2)).mono ?_
        rintro e w7 ⟨u7, rfl, hu7, hb7⟩
        have hq7 := boxD HD.out.1.md HD.out.2.1 hb7
        have hu5' := owns_dp HD.out.1.md HD.out.2.2 (by decide) (by decide) hb7
        obtain ⟨vr7, hm7⟩ := HD.out.1.dp hb7
        have H7 := hid_mk (show Mid w W w7 b r vb vr vb5 vr7 (leftB S g) (leftD S d) ∧ Blk w7 q #[.int .i64 2, .int .i64 ao, .int .i64 bo, .int .i64 co, .slice oa S.length oc] 34 ∧ OwnY 50 w7 w4.heap.size u5 (doneB S g) ∧ OwnY 73 w7 w6.heap.size u7 (doneB S g) from ⟨hm7, hq7, hu5', by rw [HRel.out.done H0.out.1.mb.1.ok H0.out.1.md.ok.len H0.out.1.md.ok.me S]; exact hu7⟩)
        clear hu5' hu7 hb7 hq7 hm7 HD
        refine ⟨_, rfl, (at0 w7 (fun W0 => Blk W0 q #[.int .i64 2, .int .i64 ao, .int .i64 bo, .int .i64 co, .slice oa S.length oc] 34)), ⟨0, rfl⟩, shut_at0 (fun m => H7.out.2.1.kept (grown_drewN _ m none) (by simp)), fun _ h => h, ?_⟩
        refine mix_call rfl rfl 24 #[u5, u7] (fun W0 => by go_simp) ?_
        rintro W0 ⟨m8, rfl⟩
        refine (same_any u5 u7 (doneB S g) (w7.drewN m8) _ _ (owns_kept H7.out.2.2.1 (grown_drewN _ _ none) (fun _ _ _ => by simp)) (owns_kept H7.out.2.2.2 (grown_drewN _ _ none) (fun _ _ _ => by simp)) (Nat.le_trans (List.length_filter_le _ _) H0.out.1.mb.1.ok.few)).mono ?_
        rintro e w8 ⟨rfl, hg8⟩
        have H8 := hid_mk (And.intro (H7.out.1.kept (grown_trans (grown_drewN _ _ none) hg8)) (H7.out.2.1.kept (grown_trans (grown_drewN _ _ none) hg8) (by simp)))
        clear hg8 H7
        refine ⟨_, rfl, (at0 w8 (fun W0 => Blk W0 q #[.int .i64 2, .int .i64 ao, .int .i64 bo, .int .i64 co, .slice oa S.length oc] 34)), ⟨0, rfl⟩, shut_at0 (fun m => H8.out.2.kept (grown_drewN _ m none) (by simp)), fun _ h => h, ?_⟩
        repeat (refine mix_rd1 rfl rfl (fun K hK => ?_); apply Exists.intro; refine ⟨fun W0 hW => ?_, ?_⟩; (obtain ⟨f0, f1, f2, f3, f4⟩ := HCL.out W0 hW; go_simp; rfl); (go_simp; refine hK _ _ ?_; clear hK K))
        refine mix_nil ?_
        rintro W1 ⟨m7, rfl⟩
        obtain ⟨vb9, hvb9⟩ : ∃ x, x = vb5 := ⟨_, rfl⟩
        obtain ⟨vr9, hvr9⟩ : ∃ x, x = vr7 := ⟨_, rfl⟩
        have H9 := hid_mk (show Mid w W (w8.drewN m7) b r vb vr vb9 vr9 (leftB S g) (leftD S d) ∧ Rel (leftB S g) (leftD S d) from ⟨by rw [hvb9, hvr9]; exact H8.out.1.kept (grown_drewN _ _ none), HRel.out.left H0.out.1.mb.1.ok H0.out.1.md.ok.len H0.out.1.md.ok.me S⟩)
        clear H8 hvb9 hvr9 HCL
        generalize w8.drewN m7 = wy at *
        generalize leftB S g = g9 at *
        generalize leftD S d = d9 at *
        go_wp2_with fail
        refine (waiting_any H9.out.1.mb.1).mono ?_
        rintro e w7 ⟨u7, rfl, hu7, hg7⟩
        obtain ⟨ua, uc, rfl⟩ := hu7.len
        have H7 := hid_mk (And.intro (H9.out.1.kept hg7) hu7)
        clear hu7 hg7
        go_wp2_with fail
        refine (rwaiting_any H7.out.1.md).mono ?_
        rintro e w8 ⟨u8, rfl, hu8, hg8⟩
        obtain ⟨xa, xc, rfl⟩ := hu8.len
        have H8 := hid_mk (show Mid w W w8 b r vb vr vb9 vr9 g9 d9 ∧ IntsR w8 (.slice ua (ids g9.L).length uc) (ids g9.L) ∧ IntsR w8 (.slice xa (ids d9.L).length xc) (ids g9.L) ∧ (ids g9.L).length ≤ 17592186044416 from ⟨H7.out.1.kept hg8, (H7.out.2.kept hg8).ints, by have := hu8.ints; rwa [← H9.out.2.L] at this ⊢, by have := H9.out.1.mb.1.ok.few; simp [ids]; omega⟩)
        clear hu8 hg8
        go_wp2_with fail
        refine (ints_same _ _ (ids g9.L) w8 H8.out.2.1 H8.out.2.2.1 H8.out.2.2.2).mono ?_
        rintro e wz ⟨rfl, hgz⟩
        have HZ := hid_mk (H8.out.1.kept hgz)
        clear hgz
        go_wp2_with fail
        go_ret
        exact ⟨rfl, _, _, _, _, HZ.out, H9.out.2⟩
      · have hk20 : (k == 2) = false := beq_eq_false_iff_ne.2 hk2
        by_cases hk3 : k = 3
        · subst hk3
          have HW1 := hid_mk H0.out.1
          go_upto_region 10 with fail
          clear f0 f1 f2 f3 f4
          go_wp2_with fail
          refine (clear_bp HW1.out.mb.1).mono ?_
          rintro e w3 ⟨u3, rfl, hu3, hb3⟩
          obtain ⟨ea, ec, rfl⟩ := hu3.len
          obtain ⟨vb9, hm3⟩ := HW1.out.bp hb3
          have H3 := hid_mk (And.intro hm3 hu3)
          clear hu3 hb3 hm3
          go_wp2_with fail
          refine (rclear_dp H3.out.1.md).mono ?_
          rintro e w4 ⟨u4, rfl, hu4, hb4⟩
          obtain ⟨ya, yc, rfl⟩ := hu4.len
          have hu3 := owns_dp H3.out.1.md H3.out.2 (by decide) (by decide) hb4
          obtain ⟨vr9, hm4⟩ := H3.out.1.dp hb4
          have H4 := hid_mk (show Mid w W w4 b r vb vr vb9 vr9 (newB g.me) (newD d.me) ∧ IntsR w4 (.slice ea (ids g.L).length ec) (ids g.L) ∧ IntsR w4 (.slice ya (ids d.L).length yc) (ids g.L) ∧ (ids g.L).length ≤ 17592186044416 from ⟨hm4, OwnI.ints hu3, by have := hu4.ints; rwa [← HRel.out.L] at this ⊢, by have := HW1.out.mb.1.ok.few; simp [ids]; omega⟩)
          clear hu3 hu4 hb4 hm4 H3
          go_wp2_with fail
          refine (ints_same _ _ (ids g.L) w4 H4.out.2.1 H4.out.2.2.1 H4.out.2.2.2).mono ?_
          rintro e wy ⟨rfl, hgy⟩
          have H9 := hid_mk (show Mid w W wy b r vb vr vb9 vr9 (newB g.me) (newD d.me) ∧ Rel (newB g.me) (newD d.me) from ⟨H4.out.1.kept hgy, by rw [HRel.out.me]; exact rel_new _⟩)
          clear hgy H4
          generalize newB g.me = g9 at *
          generalize newD d.me = d9 at *
          go_wp2_with fail
          refine (waiting_any H9.out.1.mb.1).mono ?_
          rintro e w7 ⟨u7, rfl, hu7, hg7⟩
          obtain ⟨ua, uc, rfl⟩ := hu7.len
          have H7 := hid_mk (And.intro (H9.out.1.kept hg7) hu7)
          clear hu7 hg7
          go_wp2_with fail
          refine (rwaiting_any H7.out.1.md).mono ?_
          rintro e w8 ⟨u8, rfl, hu8, hg8⟩
          obtain ⟨xa, xc, rfl⟩ := hu8.len
          have H8 := hid_mk (show Mid w W w8 b r vb vr vb9 vr9 g9 d9 ∧ IntsR w8 (.slice ua (ids g9.L).length uc) (ids g9.L) ∧ IntsR w8 (.slice xa (ids d9.L).length xc) (ids g9.L) ∧ (ids g9.L).length ≤ 17592186044416 from ⟨H7.out.1.kept hg8, (H7.out.2.kept hg8).ints, by have := hu8.ints; rwa [← H9.out.2.L] at this ⊢, by have := H9.out.1.mb.1.ok.few; simp [ids]; omega⟩)
          clear hu8 hg8
          go_wp2_with fail
          refine (ints_same _ _ (ids g9.L) w8 H8.out.2.1 H8.out.2.2.1 H8.out.2.2.2).mono ?_
          rintro e wz ⟨rfl, hgz⟩
          have HZ := hid_mk (H8.out.1.kept hgz)
          clear hgz
          go_wp2_with fail
          go_ret
          exact ⟨rfl, _, _, _, _, HZ.out, H9.out.2⟩
        · skip
          have hk40 : (k == 3) = false := beq_eq_false_iff_ne.2 hk3
          obtain ⟨vb9, hvb9⟩ : ∃ x, x = vb := ⟨_, rfl⟩
          obtain ⟨vr9, hvr9⟩ : ∃ x, x = vr := ⟨_, rfl⟩
          obtain ⟨g9, hg9⟩ : ∃ x, x = g := ⟨_, rfl⟩
          obtain ⟨d9, hd9⟩ : ∃ x, x = d := ⟨_, rfl⟩
          have H9 := hid_mk (show Mid w W w1 b r vb vr vb9 vr9 g9 d9 ∧ Rel g9 d9 from by rw [hvb9, hvr9, hg9, hd9]; exact ⟨H0.out.1, HRel.out⟩)
          clear hvb9 hvr9 hg9 hd9 hk hk1 hk2 hk3
          go_upto_region 11 with fail
          clear f0 f1 f2 f3 f4
          go_wp2_with fail
          refine (waiting_any H9.out.1.mb.1).mono ?_
          rintro e w7 ⟨u7, rfl, hu7, hg7⟩
          obtain ⟨ua, uc, rfl⟩ := hu7.len
          have H7 := hid_mk (And.intro (H9.out.1.kept hg7) hu7)
          clear hu7 hg7
          go_wp2_with fail
          refine (rwaiting_any H7.out.1.md).mono ?_
          rintro e w8 ⟨u8, rfl, hu8, hg8⟩
          obtain ⟨xa, xc, rfl⟩ := hu8.len
          have H8 := hid_mk (show Mid w W w8 b r vb vr vb9 vr9 g9 d9 ∧ IntsR w8 (.slice ua (ids g9.L).length uc) (ids g9.L) ∧ IntsR w8 (.slice xa (ids d9.L).length xc) (ids g9.L) ∧ (ids g9.L).length ≤ 17592186044416 from ⟨H7.out.1.kept hg8, (H7.out.2.kept hg8).ints, by have := hu8.ints; rwa [← H9.out.2.L] at this ⊢, by have := H9.out.1.mb.1.ok.few; simp [ids]; omega⟩)
          clear hu8 hg8
          go_wp2_with fail
          refine (ints_same _ _ (ids g9.L) w8 H8.out.2.1 H8.out.2.2.1 H8.out.2.2.2).mono ?_
          rintro e wz ⟨rfl, hgz⟩
          have HZ := hid_mk (H8.out.1.kept hgz)
          clear hgz
          go_wp2_with fail
          go_ret
          exact ⟨rfl, _, _, _, _, HZ.out, H9.out.2⟩
end Go.Proofs.Ythfdoliojbhcjaa
