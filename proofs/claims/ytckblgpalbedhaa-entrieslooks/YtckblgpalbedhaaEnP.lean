/- knows. -/
import Derived.Test.YtckblgpalbedhaaEnO
namespace Go.Proofs.Ytckblgpalbedhaa.W
open Go.RowKit Go.Maps
set_option linter.unusedVariables false
set_option linter.unusedSimpArgs false
set_option maxRecDepth 100000
attribute [local go_sem] Oper.semAt_some


theorem field_view (b t : Int) (lv : Value) (w : World) : (Instr.field 25 (.agg #[.int .i64 b, .int .i64 t, lv]) 2).run Try.prog w = .ok lv w := by
  simp [Instr.field, go_sem, asAgg, Result.andThen]
theorem ent_vals (t i : Nat) (dv : Value) : entV (eN t i) dv = .agg #[.int .i64 (t : Nat), .int .i64 (i : Nat), .int .i64 2, dv] := rfl
set_option maxHeartbeats 8000000 in
theorem knows_any (w : World) : Calls Try.prog 22 #[] w fun e w' => e = .returned (.bool true) ∧ w.grownBy w' none := by
  go_enter Try.func22, Try.ntmps22
  go_wp2_with fail
  refine (entry_any 1 1 (by omega) (by omega) w).mono ?_
  rintro e w1 ⟨_, rfl, ⟨d1, rfl, ho1⟩, hg1⟩
  obtain ⟨a1, c1, rfl⟩ := ho1.len
  have H1 := hid_mk (And.intro ho1.byt hg1)
  clear ho1 hg1
  unfold entV eN
  go_wp2_with fail
  refine (entry_any 1 2 (by omega) (by omega) w1).mono ?_
  rintro e w2 ⟨_, rfl, ⟨d2, rfl, ho2⟩, hg2⟩
  obtain ⟨a2, c2, rfl⟩ := ho2.len
  have H2 := hid_mk (And.intro ho2.byt hg2)
  clear ho2 hg2
  unfold entV eN
  go_wp2_with fail
  refine (entry_any 2 3 (by omega) (by omega) w2).mono ?_
  rintro e w3 ⟨_, rfl, ⟨d3, rfl, ho3⟩, hg3⟩
  obtain ⟨a3, c3, rfl⟩ := ho3.len
  have H3 := hid_mk (And.intro ho3.byt hg3)
  clear ho3 hg3
  unfold entV eN
  have H4 := hid_mk (show EntsR ((w3.alloc (.cells #[.int .i64 1, .int .i64 1, .int .i64 2, .slice a1 1 c1, .int .i64 1, .int .i64 2, .int .i64 2, .slice a2 1 c2, .int .i64 2, .int .i64 3, .int .i64 2, .slice a3 1 c3] 44)).alloc (.cells #[.int .i64 0, .int .i64 0, .slice (some ⟨w3.heap.size, 0, none⟩) 3 3] 25)) (.slice (some ⟨w3.heap.size, 0, none⟩) 3 3) es3 ∧ VB ((w3.alloc (.cells #[.int .i64 1, .int .i64 1, .int .i64 2, .slice a1 1 c1, .int .i64 1, .int .i64 2, .int .i64 2, .slice a2 1 c2, .int .i64 2, .int .i64 3, .int .i64 2, .slice a3 1 c3] 44)).alloc (.cells #[.int .i64 0, .int .i64 0, .slice (some ⟨w3.heap.size, 0, none⟩) 3 3] 25)) (w3.heap.size + 1) 0 0 (.slice (some ⟨w3.heap.size, 0, none⟩) 3 3) ∧ w.grownBy ((w3.alloc (.cells #[.int .i64 1, .int .i64 1, .int .i64 2, .slice a1 1 c1, .int .i64 1, .int .i64 2, .int .i64 2, .slice a2 1 c2, .int .i64 2, .int .i64 3, .int .i64 2, .slice a3 1 c3] 44)).alloc (.cells #[.int .i64 0, .int .i64 0, .slice (some ⟨w3.heap.size, 0, none⟩) 3 3] 25)) none from by
    have gA := World.grownBy_alloc w3 (.cells #[.int .i64 1, .int .i64 1, .int .i64 2, .slice a1 1 c1, .int .i64 1, .int .i64 2, .int .i64 2, .slice a2 1 c2, .int .i64 2, .int .i64 3, .int .i64 2, .slice a3 1 c3] 44) none
    have gB := World.grownBy_alloc (w3.alloc (.cells #[.int .i64 1, .int .i64 1, .int .i64 2, .slice a1 1 c1, .int .i64 1, .int .i64 2, .int .i64 2, .slice a2 1 c2, .int .i64 2, .int .i64 3, .int .i64 2, .slice a3 1 c3] 44)) (.cells #[.int .i64 0, .int .i64 0, .slice (some ⟨w3.heap.size, 0, none⟩) 3 3] 25) none
    have hv := VB.new (w3.alloc (.cells #[.int .i64 1, .int .i64 1, .int .i64 2, .slice a1 1 c1, .int .i64 1, .int .i64 2, .int .i64 2, .slice a2 1 c2, .int .i64 2, .int .i64 3, .int .i64 2, .slice a3 1 c3] 44)) 0 0 (.slice (some ⟨w3.heap.size, 0, none⟩) 3 3)
    rw [World.size_alloc] at hv
    refine ⟨EntsR.kept ?_ gB, hv, grown_trans (grown_trans H1.out.2 (grown_trans H2.out.2 H3.out.2)) (grown_trans gA gB)⟩
    have hb : Blk (w3.alloc (.cells #[.int .i64 1, .int .i64 1, .int .i64 2, .slice a1 1 c1, .int .i64 1, .int .i64 2, .int .i64 2, .slice a2 1 c2, .int .i64 2, .int .i64 3, .int .i64 2, .slice a3 1 c3] 44)) w3.heap.size (([(eN 1 1, .slice a1 1 c1), (eN 1 2, .slice a2 1 c2), (eN 2 3, .slice a3 1 c3)] : List (Ent × Value)).flatMap entCells).toArray 44 := heap_alloc_new _ _
    refine ents_blk (ps := [(eN 1 1, .slice a1 1 c1), (eN 1 2, .slice a2 1 c2), (eN 2 3, .slice a3 1 c3)]) hb ?_
    intro p hp
    simp only [List.mem_cons, List.not_mem_nil, or_false] at hp
    rcases hp with rfl | rfl | rfl
    · exact ⟨H1.out.1.kept (grown_trans (grown_trans H2.out.2 H3.out.2) gA), by simp [eN]⟩
    · exact ⟨H2.out.1.kept (grown_trans H3.out.2 gA), by simp [eN]⟩
    · exact ⟨H3.out.1.kept gA, by simp [eN]⟩)
  go_upto_region 2 with fail
  clear H1 H2 H3
  generalize (w3.alloc (.cells #[.int .i64 1, .int .i64 1, .int .i64 2, .slice a1 1 c1, .int .i64 1, .int .i64 2, .int .i64 2, .slice a2 1 c2, .int .i64 2, .int .i64 3, .int .i64 2, .slice a3 1 c3] 44)).alloc (.cells #[.int .i64 0, .int .i64 0, .slice (some ⟨w3.heap.size, 0, none⟩) 3 3] 25) = w4 at *
  obtain ⟨g3, hg3⟩ : ∃ g, g = w3.heap.size := ⟨_, rfl⟩
  rw [← hg3] at H4 ⊢
  clear hg3
  obtain ⟨p1, hp1⟩ : ∃ g, g = g3 + 1 := ⟨_, rfl⟩
  rw [← hp1] at H4 ⊢
  clear hp1
  have HES := hid_mk H4.out.1
  have HCL : ∀ W, w4.grownBy W none → W.cell? ⟨p1, 0, none⟩ = some (.int .i64 0) ∧ W.cell? ⟨p1, 1, none⟩ = some (.int .i64 0) ∧ W.cell? ⟨p1, 2, none⟩ = some (.slice (some ⟨g3, 0, none⟩) 3 3) := fun W hW => (H4.out.2.1.kept hW (by simp)).cells
  have HX0 := hid_mk (show BS w4 w4 #[.bool false, .int .i64 0, .int .i64 0, .slice none 0 0] 51 none from ⟨grown_refl _ _, fun q e => by cases e⟩)
  go_cut [2] (fun s wx => ∃ (q : Nat) (va : Option Addr) (vc : Nat) (ps : List (Ent × Value)), s = .pointer (some ⟨q, 0, none⟩) ∧ Hid (w4.grownBy wx none ∧ FB wx q true 4 0 (.slice va 1 vc) ∧ EO w4 wx (.slice va 1 vc) ps ∧ ps.map (·.1) = [eN 3 4]))
  case first =>
    refine wp_region_fork (X := fun _ _ _ => False) [(0, true)] 5 #[true, false, false, false, false, false] (cl w4 w4) (by kernel_rfl) (by kernel_rfl) rfl (by kernel_rfl) (fun _ _ _ h => h.elim) (shut_at0 (fun mm => grown_drewN _ mm _)) ⟨1, rfl⟩ ?_
    repeat (refine mix_rd1X rfl rfl (fun K hK => ?_); apply Exists.intro; refine ⟨fun W0 hW => ?_, ?_⟩; (obtain ⟨d0, d1, d2⟩ := HCL W0 hW; go_simp; rfl); (go_simp; refine hK _ _ ?_; clear hK K))
    refine mix_nilX ?_
    refine fork2 1 4 (by kernel_rfl) ?_ ?_
    · refine bs_call HX0.out 40 #[.int .i64 3, .int .i64 4] (fun v _ W' => ∃ dv, v = entV (eN 3 4) dv ∧ Byt W' dv [UInt8.ofNat 3]) rfl rfl (fun W => by go_simp) (fun W1 hW1 => (entry_any 3 4 (by omega) (by omega) W1).mono (by rintro e W' ⟨v, rfl, ⟨dv, rfl, ho⟩, hg⟩; exact ⟨_, rfl, ⟨dv, rfl, ho.byt⟩, hg⟩)) ?_
      intro K hK v W1 Wc1 H1
      obtain ⟨hbs1, hg1, hg2, dv, hv, hby⟩ := H1.out
      subst hv
      have HBS1 := hid_mk hbs1
      have HDV := hid_mk hby
      have HWC := hid_mk (show w4.grownBy Wc1 none from hbs1.gr)
      obtain ⟨da, dc, hdl⟩ : ∃ a c, dv = .slice a 1 c := hby.len
      subst hdl
      unfold entV eN
      clear hbs1 hg1 hg2 hby H1
      go_simp
      refine hK _ _ ?_
      clear hK K
      refine fork2 2 4 (by kernel_rfl) ?_ ?_
      · refine bs_row HBS1.out #[.int .i64 3, .int .i64 4, .int .i64 2, .slice da 1 dc] 44 1 rfl rfl (fun W => by go_simp) ?_
        intro K hK qr Wr2 H2
        have HBS2 := hid_mk H2.out.1
        go_simp
        refine hK _ _ ?_
        clear hK K
        have HEN := hid_mk (show EntsR Wr2 (.slice (some ⟨qr, 0, none⟩) 1 1) [eN 3 4] from ents_blk (ps := [(eN 3 4, .slice da 1 dc)]) H2.out.2.2 (by intro p hp; simp at hp; subst hp; exact ⟨HDV.out.kept (H2.out.2.1), by simp [eN]⟩))
        refine fork2 3 4 (by kernel_rfl) ?_ ?_
        · refine bs_call HBS2.out 24 #[viewV 0 0 (.slice (some ⟨g3, 0, none⟩) 3 3), .int .i64 3, .int .i64 2, .slice (some ⟨qr, 0, none⟩) 1 1] (fun v W1 W' => ∃ va vc ps, v = fitV ⟨true, 4, 0, [eN 3 4]⟩ (.slice va 1 vc) ∧ EO W1 W' (.slice va 1 vc) ps ∧ ps.map (·.1) = [eN 3 4]) rfl rfl (fun W => by unfold viewV; go_simp) (fun W1 hW1 => (try_any 0 0 _ es3 3 2 _ [eN 3 4] W1 (HES.out.kept (grown_trans HBS2.out.gr hW1)) (HEN.out.kept (hW1)) (by decide) (by simp) (by unfold I64; omega) (by unfold I64; omega)).mono (by
              rintro e W' ⟨av, ps, rfl, heo, hmap⟩
              rw [try_a] at hmap ⊢
              obtain ⟨va, vc, hv⟩ := row_shape heo.row
              subst hv
              have hl : ps.length = 1 := by have := congrArg List.length hmap; simpa using this
              rw [hl] at heo ⊢
              exact ⟨_, rfl, ⟨va, vc, ps, rfl, heo, hmap⟩, heo.gr⟩)) ?_
          intro K hK v W1 Wc3 H3
          obtain ⟨hbs3, hg1, hg2, va, vc, ps, hv, hrd, hmp⟩ := H3.out
          subst hv
          have HBS3 := hid_mk hbs3
          have HRD := hid_mk (show EO w4 Wc3 (.slice va 1 vc) ps ∧ ps.map (·.1) = [eN 3 4] from ⟨hrd.base (grown_trans HBS2.out.gr hg1), hmp⟩)
          clear hmp
          have HRW := hid_mk (grown_refl Wc3 (none : Option Nat))
          clear hbs3 hg1 hg2 hrd H3
          unfold fitV
          go_simp
          refine hK _ _ ?_
          clear hK K
          refine fork1 4 (by kernel_rfl) ?_
          refine bs_box #[.bool false, .int .i64 0, .int .i64 0, .slice none 0 0] HBS3.out rfl rfl (fun W => by go_simp) ?_
          intro K hK q Wb4 HB4
          have HBS4 := hid_mk HB4.out.1
          go_simp
          refine hK _ _ ?_
          clear hK K
          refine fork1 5 (by kernel_rfl) ?_
          refine bs_store q HBS4.out #[.bool true, .int .i64 4, .int .i64 0, .slice va 1 vc] (fun W => (((W.setCell ⟨q, 0, none⟩ (.bool true)).setCell ⟨q, 1, none⟩ (.int .i64 4)).setCell ⟨q, 2, none⟩ (.int .i64 0)).setCell ⟨q, 3, none⟩ (.slice va 1 vc)) (fun W hb => FB.put (show FB W q false 0 0 (.slice none 0 0) from hb) _ _ _ _) rfl rfl (fun W hb => by
            obtain ⟨e0, e1, e2, e3⟩ := (show FB W q false 0 0 (.slice none 0 0) from hb).cells
            have ef := fun j => hb.frozen j
            first | (left; go_simp; done) | (right; apply Exists.intro; go_simp; rfl) | (right; apply Exists.intro; go_simp)) rfl ?_
          intro K hK Ws HS
          refine hK _ _ ?_
          clear hK K
          refine fork_end (by kernel_rfl) ?_
          rintro Wz ⟨mz, rfl⟩
          go_wp2_with fail
          go_meet
          case rel =>
           refine ⟨q, va, vc, ps, rfl, hid_mk ⟨grown_trans HS.out.1 (grown_drewN _ mz none), (show FB Ws q true 4 0 (.slice va 1 vc) from HS.out.2.2.1).kept (grown_drewN _ mz none) (by simp), ?_, HRD.out.2⟩⟩
           exact ((HRD.out.1.kept HB4.out.2).but (HBS4.out.box q rfl).1 (by decide) (by decide) (HBS4.out.box q rfl).2 HS.out.2.1).kept (grown_drewN _ mz none)
        · refine bs_box #[.bool false, .int .i64 0, .int .i64 0, .slice none 0 0] HBS2.out rfl rfl (fun W => by go_simp) ?_
          intro K hK q Wb3 HB3
          have HBS3 := hid_mk HB3.out.1
          go_simp
          refine hK _ _ ?_
          clear hK K
          refine fork1 3 (by kernel_rfl) ?_
          refine bs_call HBS3.out 24 #[viewV 0 0 (.slice (some ⟨g3, 0, none⟩) 3 3), .int .i64 3, .int .i64 2, .slice (some ⟨qr, 0, none⟩) 1 1] (fun v W1 W' => ∃ va vc ps, v = fitV ⟨true, 4, 0, [eN 3 4]⟩ (.slice va 1 vc) ∧ EO W1 W' (.slice va 1 vc) ps ∧ ps.map (·.1) = [eN 3 4]) rfl rfl (fun W => by unfold viewV; go_simp) (fun W1 hW1 => (try_any 0 0 _ es3 3 2 _ [eN 3 4] W1 (HES.out.kept (grown_trans HBS3.out.gr hW1)) (HEN.out.kept (grown_trans HB3.out.2 hW1)) (by decide) (by simp) (by unfold I64; omega) (by unfold I64; omega)).mono (by
              rintro e W' ⟨av, ps, rfl, heo, hmap⟩
              rw [try_a] at hmap ⊢
              obtain ⟨va, vc, hv⟩ := row_shape heo.row
              subst hv
              have hl : ps.length = 1 := by have := congrArg List.length hmap; simpa using this
              rw [hl] at heo ⊢
              exact ⟨_, rfl, ⟨va, vc, ps, rfl, heo, hmap⟩, heo.gr⟩)) ?_
          intro K hK v W1 Wc6 H6
          obtain ⟨hbs6, hg1, hg2, va, vc, ps, hv, hrd, hmp⟩ := H6.out
          subst hv
          have HBS6 := hid_mk hbs6
          have HRD := hid_mk (show EO w4 Wc6 (.slice va 1 vc) ps ∧ ps.map (·.1) = [eN 3 4] from ⟨hrd.base (grown_trans HBS3.out.gr hg1), hmp⟩)
          clear hmp
          have HRW := hid_mk (grown_refl Wc6 (none : Option Nat))
          clear hbs6 hg1 hg2 hrd H6
          unfold fitV
          go_simp
          refine hK _ _ ?_
          clear hK K
          refine fork1 5 (by kernel_rfl) ?_
          refine bs_store q HBS6.out #[.bool true, .int .i64 4, .int .i64 0, .slice va 1 vc] (fun W => (((W.setCell ⟨q, 0, none⟩ (.bool true)).setCell ⟨q, 1, none⟩ (.int .i64 4)).setCell ⟨q, 2, none⟩ (.int .i64 0)).setCell ⟨q, 3, none⟩ (.slice va 1 vc)) (fun W hb => FB.put (show FB W q false 0 0 (.slice none 0 0) from hb) _ _ _ _) rfl rfl (fun W hb => by
            obtain ⟨e0, e1, e2, e3⟩ := (show FB W q false 0 0 (.slice none 0 0) from hb).cells
            have ef := fun j => hb.frozen j
            first | (left; go_simp; done) | (right; apply Exists.intro; go_simp; rfl) | (right; apply Exists.intro; go_simp)) rfl ?_
          intro K hK Ws HS
          refine hK _ _ ?_
          clear hK K
          refine fork_end (by kernel_rfl) ?_
          rintro Wz ⟨mz, rfl⟩
          go_wp2_with fail
          go_meet
          case rel =>
           refine ⟨q, va, vc, ps, rfl, hid_mk ⟨grown_trans HS.out.1 (grown_drewN _ mz none), (show FB Ws q true 4 0 (.slice va 1 vc) from HS.out.2.2.1).kept (grown_drewN _ mz none) (by simp), ?_, HRD.out.2⟩⟩
           exact ((HRD.out.1).but (HBS6.out.box q rfl).1 (by decide) (by decide) (HBS6.out.box q rfl).2 HS.out.2.1).kept (grown_drewN _ mz none)
      · refine bs_box #[.bool false, .int .i64 0, .int .i64 0, .slice none 0 0] HBS1.out rfl rfl (fun W => by go_simp) ?_
        intro K hK q Wb2 HB2
        have HBS2 := hid_mk HB2.out.1
        go_simp
        refine hK _ _ ?_
        clear hK K
        refine fork1 2 (by kernel_rfl) ?_
        refine bs_row HBS2.out #[.int .i64 3, .int .i64 4, .int .i64 2, .slice da 1 dc] 44 1 rfl rfl (fun W => by go_simp) ?_
        intro K hK qr Wr8 H8
        have HBS8 := hid_mk H8.out.1
        go_simp
        refine hK _ _ ?_
        clear hK K
        have HEN := hid_mk (show EntsR Wr8 (.slice (some ⟨qr, 0, none⟩) 1 1) [eN 3 4] from ents_blk (ps := [(eN 3 4, .slice da 1 dc)]) H8.out.2.2 (by intro p hp; simp at hp; subst hp; exact ⟨HDV.out.kept (grown_trans HB2.out.2 H8.out.2.1), by simp [eN]⟩))
        refine fork1 3 (by kernel_rfl) ?_
        refine bs_call HBS8.out 24 #[viewV 0 0 (.slice (some ⟨g3, 0, none⟩) 3 3), .int .i64 3, .int .i64 2, .slice (some ⟨qr, 0, none⟩) 1 1] (fun v W1 W' => ∃ va vc ps, v = fitV ⟨true, 4, 0, [eN 3 4]⟩ (.slice va 1 vc) ∧ EO W1 W' (.slice va 1 vc) ps ∧ ps.map (·.1) = [eN 3 4]) rfl rfl (fun W => by unfold viewV; go_simp) (fun W1 hW1 => (try_any 0 0 _ es3 3 2 _ [eN 3 4] W1 (HES.out.kept (grown_trans HBS8.out.gr hW1)) (HEN.out.kept (hW1)) (by decide) (by simp) (by unfold I64; omega) (by unfold I64; omega)).mono (by
            rintro e W' ⟨av, ps, rfl, heo, hmap⟩
            rw [try_a] at hmap ⊢
            obtain ⟨va, vc, hv⟩ := row_shape heo.row
            subst hv
            have hl : ps.length = 1 := by have := congrArg List.length hmap; simpa using this
            rw [hl] at heo ⊢
            exact ⟨_, rfl, ⟨va, vc, ps, rfl, heo, hmap⟩, heo.gr⟩)) ?_
        intro K hK v W1 Wc9 H9
        obtain ⟨hbs9, hg1, hg2, va, vc, ps, hv, hrd, hmp⟩ := H9.out
        subst hv
        have HBS9 := hid_mk hbs9
        have HRD := hid_mk (show EO w4 Wc9 (.slice va 1 vc) ps ∧ ps.map (·.1) = [eN 3 4] from ⟨hrd.base (grown_trans HBS8.out.gr hg1), hmp⟩)
        clear hmp
        have HRW := hid_mk (grown_refl Wc9 (none : Option Nat))
        clear hbs9 hg1 hg2 hrd H9
        unfold fitV
        go_simp
        refine hK _ _ ?_
        clear hK K
        refine fork1 5 (by kernel_rfl) ?_
        refine bs_store q HBS9.out #[.bool true, .int .i64 4, .int .i64 0, .slice va 1 vc] (fun W => (((W.setCell ⟨q, 0, none⟩ (.bool true)).setCell ⟨q, 1, none⟩ (.int .i64 4)).setCell ⟨q, 2, none⟩ (.int .i64 0)).setCell ⟨q, 3, none⟩ (.slice va 1 vc)) (fun W hb => FB.put (show FB W q false 0 0 (.slice none 0 0) from hb) _ _ _ _) rfl rfl (fun W hb => by
          obtain ⟨e0, e1, e2, e3⟩ := (show FB W q false 0 0 (.slice none 0 0) from hb).cells
          have ef := fun j => hb.frozen j
          first | (left; go_simp; done) | (right; apply Exists.intro; go_simp; rfl) | (right; apply Exists.intro; go_simp)) rfl ?_
        intro K hK Ws HS
        refine hK _ _ ?_
        clear hK K
        refine fork_end (by kernel_rfl) ?_
        rintro Wz ⟨mz, rfl⟩
        go_wp2_with fail
        go_meet
        case rel =>
         refine ⟨q, va, vc, ps, rfl, hid_mk ⟨grown_trans HS.out.1 (grown_drewN _ mz none), (show FB Ws q true 4 0 (.slice va 1 vc) from HS.out.2.2.1).kept (grown_drewN _ mz none) (by simp), ?_, HRD.out.2⟩⟩
         exact ((HRD.out.1).but (HBS9.out.box q rfl).1 (by decide) (by decide) (HBS9.out.box q rfl).2 HS.out.2.1).kept (grown_drewN _ mz none)
    · refine bs_box #[.bool false, .int .i64 0, .int .i64 0, .slice none 0 0] HX0.out rfl rfl (fun W => by go_simp) ?_
      intro K hK q Wb1 HB1
      have HBS1 := hid_mk HB1.out.1
      go_simp
      refine hK _ _ ?_
      clear hK K
      refine fork1 1 (by kernel_rfl) ?_
      refine bs_call HBS1.out 40 #[.int .i64 3, .int .i64 4] (fun v _ W' => ∃ dv, v = entV (eN 3 4) dv ∧ Byt W' dv [UInt8.ofNat 3]) rfl rfl (fun W => by go_simp) (fun W1 hW1 => (entry_any 3 4 (by omega) (by omega) W1).mono (by rintro e W' ⟨v, rfl, ⟨dv, rfl, ho⟩, hg⟩; exact ⟨_, rfl, ⟨dv, rfl, ho.byt⟩, hg⟩)) ?_
      intro K hK v W1 Wc11 H11
      obtain ⟨hbs11, hg1, hg2, dv, hv, hby⟩ := H11.out
      subst hv
      have HBS11 := hid_mk hbs11
      have HDV := hid_mk hby
      have HWC := hid_mk (show w4.grownBy Wc11 none from hbs11.gr)
      obtain ⟨da, dc, hdl⟩ : ∃ a c, dv = .slice a 1 c := hby.len
      subst hdl
      unfold entV eN
      clear hbs11 hg1 hg2 hby H11
      go_simp
      refine hK _ _ ?_
      clear hK K
      refine fork1 2 (by kernel_rfl) ?_
      refine bs_row HBS11.out #[.int .i64 3, .int .i64 4, .int .i64 2, .slice da 1 dc] 44 1 rfl rfl (fun W => by go_simp) ?_
      intro K hK qr Wr12 H12
      have HBS12 := hid_mk H12.out.1
      go_simp
      refine hK _ _ ?_
      clear hK K
      have HEN := hid_mk (show EntsR Wr12 (.slice (some ⟨qr, 0, none⟩) 1 1) [eN 3 4] from ents_blk (ps := [(eN 3 4, .slice da 1 dc)]) H12.out.2.2 (by intro p hp; simp at hp; subst hp; exact ⟨HDV.out.kept (H12.out.2.1), by simp [eN]⟩))
      refine fork1 3 (by kernel_rfl) ?_
      refine bs_call HBS12.out 24 #[viewV 0 0 (.slice (some ⟨g3, 0, none⟩) 3 3), .int .i64 3, .int .i64 2, .slice (some ⟨qr, 0, none⟩) 1 1] (fun v W1 W' => ∃ va vc ps, v = fitV ⟨true, 4, 0, [eN 3 4]⟩ (.slice va 1 vc) ∧ EO W1 W' (.slice va 1 vc) ps ∧ ps.map (·.1) = [eN 3 4]) rfl rfl (fun W => by unfold viewV; go_simp) (fun W1 hW1 => (try_any 0 0 _ es3 3 2 _ [eN 3 4] W1 (HES.out.kept (grown_trans HBS12.out.gr hW1)) (HEN.out.kept (hW1)) (by decide) (by simp) (by unfold I64; omega) (by unfold I64; omega)).mono (by
          rintro e W' ⟨av, ps, rfl, heo, hmap⟩
          rw [try_a] at hmap ⊢
          obtain ⟨va, vc, hv⟩ := row_shape heo.row
          subst hv
          have hl : ps.length = 1 := by have := congrArg List.length hmap; simpa using this
          rw [hl] at heo ⊢
          exact ⟨_, rfl, ⟨va, vc, ps, rfl, heo, hmap⟩, heo.gr⟩)) ?_
      intro K hK v W1 Wc13 H13
      obtain ⟨hbs13, hg1, hg2, va, vc, ps, hv, hrd, hmp⟩ := H13.out
      subst hv
      have HBS13 := hid_mk hbs13
      have HRD := hid_mk (show EO w4 Wc13 (.slice va 1 vc) ps ∧ ps.map (·.1) = [eN 3 4] from ⟨hrd.base (grown_trans HBS12.out.gr hg1), hmp⟩)
      clear hmp
      have HRW := hid_mk (grown_refl Wc13 (none : Option Nat))
      clear hbs13 hg1 hg2 hrd H13
      unfold fitV
      go_simp
      refine hK _ _ ?_
      clear hK K
      refine fork1 5 (by kernel_rfl) ?_
      refine bs_store q HBS13.out #[.bool true, .int .i64 4, .int .i64 0, .slice va 1 vc] (fun W => (((W.setCell ⟨q, 0, none⟩ (.bool true)).setCell ⟨q, 1, none⟩ (.int .i64 4)).setCell ⟨q, 2, none⟩ (.int .i64 0)).setCell ⟨q, 3, none⟩ (.slice va 1 vc)) (fun W hb => FB.put (show FB W q false 0 0 (.slice none 0 0) from hb) _ _ _ _) rfl rfl (fun W hb => by
        obtain ⟨e0, e1, e2, e3⟩ := (show FB W q false 0 0 (.slice none 0 0) from hb).cells
        have ef := fun j => hb.frozen j
        first | (left; go_simp; done) | (right; apply Exists.intro; go_simp; rfl) | (right; apply Exists.intro; go_simp)) rfl ?_
      intro K hK Ws HS
      refine hK _ _ ?_
      clear hK K
      refine fork_end (by kernel_rfl) ?_
      rintro Wz ⟨mz, rfl⟩
      go_wp2_with fail
      go_meet
      case rel =>
       refine ⟨q, va, vc, ps, rfl, hid_mk ⟨grown_trans HS.out.1 (grown_drewN _ mz none), (show FB Ws q true 4 0 (.slice va 1 vc) from HS.out.2.2.1).kept (grown_drewN _ mz none) (by simp), ?_, HRD.out.2⟩⟩
       exact ((HRD.out.1).but (HBS13.out.box q rfl).1 (by decide) (by decide) (HBS13.out.box q rfl).2 HS.out.2.1).kept (grown_drewN _ mz none)
  case rest =>
    obtain ⟨q, va, vc, ps, rfl, HA⟩ := hcut
    clear HX0 HCL
    rename World => w5
    obtain ⟨v0, v1, v2⟩ := (H4.out.2.1.kept HA.out.1 (by simp)).cells
    have hV : viewV 0 0 (.slice (some ⟨g3, 0, none⟩) 3 3) = .agg #[.int .i64 0, .int .i64 0, .slice (some ⟨g3, 0, none⟩) 3 3] := rfl
    have HV := hid_mk hV
    clear hV
    go_wp2_with fail
    rw [← HV.out]
    refine (try_any 0 0 _ es3 9 2 _ [] w5 (HES.out.kept HA.out.1) (EntsR.nil _) (by decide) (by simp) (by unfold I64; omega) (by unfold I64; omega)).mono ?_
    rintro e w6 ⟨av, ps6, rfl, heo, hmap⟩
    rw [try_b] at hmap ⊢
    obtain ⟨vb, vd, hv⟩ := row_shape heo.row
    subst hv
    have hl6 : ps6.length = 0 := by have := congrArg List.length hmap; simpa using this
    rw [hl6, HV.out]
    unfold fitV
    have H7 := hid_mk (show FB (w6.alloc (.cells #[.bool false, .int .i64 4, .int .i64 0, .slice vb 0 vd] 51)) w6.heap.size false 4 0 (.slice vb 0 vd) ∧ FB (w6.alloc (.cells #[.bool false, .int .i64 4, .int .i64 0, .slice vb 0 vd] 51)) q true 4 0 (.slice va 1 vc) ∧ w4.grownBy (w6.alloc (.cells #[.bool false, .int .i64 4, .int .i64 0, .slice vb 0 vd] 51)) none from by
      have ga := World.grownBy_alloc w6 (.cells #[.bool false, .int .i64 4, .int .i64 0, .slice vb 0 vd] 51) none
      have g := grown_trans heo.gr ga
      exact ⟨heap_alloc_new _ _, HA.out.2.1.kept g (by simp), grown_trans HA.out.1 g⟩)
    clear heo hmap hl6 v0 v1 v2 HA
    go_upto_region 4 with fail
    generalize w6.alloc (.cells #[.bool false, .int .i64 4, .int .i64 0, .slice vb 0 vd] 51) = w7 at *
    obtain ⟨qb, hqb⟩ : ∃ g, g = w6.heap.size := ⟨_, rfl⟩
    rw [← hqb] at H7 ⊢
    clear hqb
    have H8 := hid_mk (show FB w7 qb false 4 0 (.slice vb 0 vd) ∧ FB w7 q true 4 0 (.slice va 1 vc) ∧ VB w7 p1 0 0 (.slice (some ⟨g3, 0, none⟩) 3 3) ∧ w.grownBy w7 none from ⟨H7.out.1, H7.out.2.1, H4.out.2.1.kept H7.out.2.2 (by simp), grown_trans H4.out.2.2 H7.out.2.2⟩)
    have HES7 := hid_mk (HES.out.kept H7.out.2.2)
    clear HES H4 H7 ps
    have HES := hid_mk HES7.out
    clear HES7
    have HCL : ∀ W, w7.grownBy W none → W.cell? ⟨p1, 0, none⟩ = some (.int .i64 0) ∧ W.cell? ⟨p1, 1, none⟩ = some (.int .i64 0) ∧ W.cell? ⟨p1, 2, none⟩ = some (.slice (some ⟨g3, 0, none⟩) 3 3) := fun W hW => (H8.out.2.2.1.kept hW (by simp)).cells
    have HX0 := hid_mk (show BS w7 w7 #[.bool false, .int .i64 0, .int .i64 0, .slice none 0 0] 51 none from ⟨grown_refl _ _, fun q e => by cases e⟩)
    obtain ⟨qa, hqa⟩ : ∃ g, g = q := ⟨_, rfl⟩
    obtain ⟨ua, hua⟩ : ∃ g, g = va := ⟨_, rfl⟩
    obtain ⟨uc, huc⟩ : ∃ g, g = vc := ⟨_, rfl⟩
    rw [← hqa, ← hua, ← huc] at H8
    rw [← hqa]
    clear hqa hua huc q va vc
    go_cut [4] (fun s wx => ∃ (q : Nat) (va : Option Addr) (vc : Nat) (ps : List (Ent × Value)), s = .pointer (some ⟨q, 0, none⟩) ∧ Hid (w7.grownBy wx none ∧ FB wx q true 2 2 (.slice va 1 vc) ∧ EO w7 wx (.slice va 1 vc) ps ∧ ps.map (·.1) = [eN 5 2]))
    case first =>
      refine wp_region_fork (X := fun _ _ _ => False) [(0, true)] 5 #[true, false, false, false, false, false] (cl w7 w7) (by kernel_rfl) (by kernel_rfl) rfl (by kernel_rfl) (fun _ _ _ h => h.elim) (shut_at0 (fun mm => grown_drewN _ mm _)) ⟨1, rfl⟩ ?_
      repeat (refine mix_rd1X rfl rfl (fun K hK => ?_); apply Exists.intro; refine ⟨fun W0 hW => ?_, ?_⟩; (obtain ⟨d0, d1, d2⟩ := HCL W0 hW; go_simp; rfl); (go_simp; refine hK _ _ ?_; clear hK K))
      refine mix_nilX ?_
      refine fork2 1 4 (by kernel_rfl) ?_ ?_
      · refine bs_call HX0.out 40 #[.int .i64 5, .int .i64 2] (fun v _ W' => ∃ dv, v = entV (eN 5 2) dv ∧ Byt W' dv [UInt8.ofNat 5]) rfl rfl (fun W => by go_simp) (fun W1 hW1 => (entry_any 5 2 (by omega) (by omega) W1).mono (by rintro e W' ⟨v, rfl, ⟨dv, rfl, ho⟩, hg⟩; exact ⟨_, rfl, ⟨dv, rfl, ho.byt⟩, hg⟩)) ?_
        intro K hK v W1 Wc1 H1
        obtain ⟨hbs1, hg1, hg2, dv, hv, hby⟩ := H1.out
        subst hv
        have HBS1 := hid_mk hbs1
        have HDV := hid_mk hby
        have HWC := hid_mk (show w7.grownBy Wc1 none from hbs1.gr)
        obtain ⟨da, dc, hdl⟩ : ∃ a c, dv = .slice a 1 c := hby.len
        subst hdl
        unfold entV eN
        clear hbs1 hg1 hg2 hby H1
        go_simp
        refine hK _ _ ?_
        clear hK K
        refine fork2 2 4 (by kernel_rfl) ?_ ?_
        · refine bs_row HBS1.out #[.int .i64 5, .int .i64 2, .int .i64 2, .slice da 1 dc] 44 1 rfl rfl (fun W => by go_simp) ?_
          intro K hK qr Wr2 H2
          have HBS2 := hid_mk H2.out.1
          go_simp
          refine hK _ _ ?_
          clear hK K
          have HEN := hid_mk (show EntsR Wr2 (.slice (some ⟨qr, 0, none⟩) 1 1) [eN 5 2] from ents_blk (ps := [(eN 5 2, .slice da 1 dc)]) H2.out.2.2 (by intro p hp; simp at hp; subst hp; exact ⟨HDV.out.kept (H2.out.2.1), by simp [eN]⟩))
          refine fork2 3 4 (by kernel_rfl) ?_ ?_
          · refine bs_call HBS2.out 24 #[viewV 0 0 (.slice (some ⟨g3, 0, none⟩) 3 3), .int .i64 1, .int .i64 1, .slice (some ⟨qr, 0, none⟩) 1 1] (fun v W1 W' => ∃ va vc ps, v = fitV ⟨true, 2, 2, [eN 5 2]⟩ (.slice va 1 vc) ∧ EO W1 W' (.slice va 1 vc) ps ∧ ps.map (·.1) = [eN 5 2]) rfl rfl (fun W => by unfold viewV; go_simp) (fun W1 hW1 => (try_any 0 0 _ es3 1 1 _ [eN 5 2] W1 (HES.out.kept (grown_trans HBS2.out.gr hW1)) (HEN.out.kept (hW1)) (by decide) (by simp) (by unfold I64; omega) (by unfold I64; omega)).mono (by
                rintro e W' ⟨av, ps, rfl, heo, hmap⟩
                rw [try_c] at hmap ⊢
                obtain ⟨va, vc, hv⟩ := row_shape heo.row
                subst hv
                have hl : ps.length = 1 := by have := congrArg List.length hmap; simpa using this
                rw [hl] at heo ⊢
                exact ⟨_, rfl, ⟨va, vc, ps, rfl, heo, hmap⟩, heo.gr⟩)) ?_
            intro K hK v W1 Wc3 H3
            obtain ⟨hbs3, hg1, hg2, va, vc, ps, hv, hrd, hmp⟩ := H3.out
            subst hv
            have HBS3 := hid_mk hbs3
            have HRD := hid_mk (show EO w7 Wc3 (.slice va 1 vc) ps ∧ ps.map (·.1) = [eN 5 2] from ⟨hrd.base (grown_trans HBS2.out.gr hg1), hmp⟩)
            clear hmp
            have HRW := hid_mk (grown_refl Wc3 (none : Option Nat))
            clear hbs3 hg1 hg2 hrd H3
            unfold fitV
            go_simp
            refine hK _ _ ?_
            clear hK K
            refine fork1 4 (by kernel_rfl) ?_
            refine bs_box #[.bool false, .int .i64 0, .int .i64 0, .slice none 0 0] HBS3.out rfl rfl (fun W => by go_simp) ?_
            intro K hK q Wb4 HB4
            have HBS4 := hid_mk HB4.out.1
            go_simp
            refine hK _ _ ?_
            clear hK K
            refine fork1 5 (by kernel_rfl) ?_
            refine bs_store q HBS4.out #[.bool true, .int .i64 2, .int .i64 2, .slice va 1 vc] (fun W => (((W.setCell ⟨q, 0, none⟩ (.bool true)).setCell ⟨q, 1, none⟩ (.int .i64 2)).setCell ⟨q, 2, none⟩ (.int .i64 2)).setCell ⟨q, 3, none⟩ (.slice va 1 vc)) (fun W hb => FB.put (show FB W q false 0 0 (.slice none 0 0) from hb) _ _ _ _) rfl rfl (fun W hb => by
              obtain ⟨e0, e1, e2, e3⟩ := (show FB W q false 0 0 (.slice none 0 0) from hb).cells
              have ef := fun j => hb.frozen j
              first | (left; go_simp; done) | (right; apply Exists.intro; go_simp; rfl) | (right; apply Exists.intro; go_simp)) rfl ?_
            intro K hK Ws HS
            refine hK _ _ ?_
            clear hK K
            refine fork_end (by kernel_rfl) ?_
            rintro Wz ⟨mz, rfl⟩
            go_wp2_with fail
            go_meet
            case rel =>
             refine ⟨q, va, vc, ps, rfl, hid_mk ⟨grown_trans HS.out.1 (grown_drewN _ mz none), (show FB Ws q true 2 2 (.slice va 1 vc) from HS.out.2.2.1).kept (grown_drewN _ mz none) (by simp), ?_, HRD.out.2⟩⟩
             exact ((HRD.out.1.kept HB4.out.2).but (HBS4.out.box q rfl).1 (by decide) (by decide) (HBS4.out.box q rfl).2 HS.out.2.1).kept (grown_drewN _ mz none)
          · refine bs_box #[.bool false, .int .i64 0, .int .i64 0, .slice none 0 0] HBS2.out rfl rfl (fun W => by go_simp) ?_
            intro K hK q Wb3 HB3
            have HBS3 := hid_mk HB3.out.1
            go_simp
            refine hK _ _ ?_
            clear hK K
            refine fork1 3 (by kernel_rfl) ?_
            refine bs_call HBS3.out 24 #[viewV 0 0 (.slice (some ⟨g3, 0, none⟩) 3 3), .int .i64 1, .int .i64 1, .slice (some ⟨qr, 0, none⟩) 1 1] (fun v W1 W' => ∃ va vc ps, v = fitV ⟨true, 2, 2, [eN 5 2]⟩ (.slice va 1 vc) ∧ EO W1 W' (.slice va 1 vc) ps ∧ ps.map (·.1) = [eN 5 2]) rfl rfl (fun W => by unfold viewV; go_simp) (fun W1 hW1 => (try_any 0 0 _ es3 1 1 _ [eN 5 2] W1 (HES.out.kept (grown_trans HBS3.out.gr hW1)) (HEN.out.kept (grown_trans HB3.out.2 hW1)) (by decide) (by simp) (by unfold I64; omega) (by unfold I64; omega)).mono (by
                rintro e W' ⟨av, ps, rfl, heo, hmap⟩
                rw [try_c] at hmap ⊢
                obtain ⟨va, vc, hv⟩ := row_shape heo.row
                subst hv
                have hl : ps.length = 1 := by have := congrArg List.length hmap; simpa using this
                rw [hl] at heo ⊢
                exact ⟨_, rfl, ⟨va, vc, ps, rfl, heo, hmap⟩, heo.gr⟩)) ?_
            intro K hK v W1 Wc6 H6
            obtain ⟨hbs6, hg1, hg2, va, vc, ps, hv, hrd, hmp⟩ := H6.out
            subst hv
            have HBS6 := hid_mk hbs6
            have HRD := hid_mk (show EO w7 Wc6 (.slice va 1 vc) ps ∧ ps.map (·.1) = [eN 5 2] from ⟨hrd.base (grown_trans HBS3.out.gr hg1), hmp⟩)
            clear hmp
            have HRW := hid_mk (grown_refl Wc6 (none : Option Nat))
            clear hbs6 hg1 hg2 hrd H6
            unfold fitV
            go_simp
            refine hK _ _ ?_
            clear hK K
            refine fork1 5 (by kernel_rfl) ?_
            refine bs_store q HBS6.out #[.bool true, .int .i64 2, .int .i64 2, .slice va 1 vc] (fun W => (((W.setCell ⟨q, 0, none⟩ (.bool true)).setCell ⟨q, 1, none⟩ (.int .i64 2)).setCell ⟨q, 2, none⟩ (.int .i64 2)).setCell ⟨q, 3, none⟩ (.slice va 1 vc)) (fun W hb => FB.put (show FB W q false 0 0 (.slice none 0 0) from hb) _ _ _ _) rfl rfl (fun W hb => by
              obtain ⟨e0, e1, e2, e3⟩ := (show FB W q false 0 0 (.slice none 0 0) from hb).cells
              have ef := fun j => hb.frozen j
              first | (left; go_simp; done) | (right; apply Exists.intro; go_simp; rfl) | (right; apply Exists.intro; go_simp)) rfl ?_
            intro K hK Ws HS
            refine hK _ _ ?_
            clear hK K
            refine fork_end (by kernel_rfl) ?_
            rintro Wz ⟨mz, rfl⟩
            go_wp2_with fail
            go_meet
            case rel =>
             refine ⟨q, va, vc, ps, rfl, hid_mk ⟨grown_trans HS.out.1 (grown_drewN _ mz none), (show FB Ws q true 2 2 (.slice va 1 vc) from HS.out.2.2.1).kept (grown_drewN _ mz none) (by simp), ?_, HRD.out.2⟩⟩
             exact ((HRD.out.1).but (HBS6.out.box q rfl).1 (by decide) (by decide) (HBS6.out.box q rfl).2 HS.out.2.1).kept (grown_drewN _ mz none)
        · refine bs_box #[.bool false, .int .i64 0, .int .i64 0, .slice none 0 0] HBS1.out rfl rfl (fun W => by go_simp) ?_
          intro K hK q Wb2 HB2
          have HBS2 := hid_mk HB2.out.1
          go_simp
          refine hK _ _ ?_
          clear hK K
          refine fork1 2 (by kernel_rfl) ?_
          refine bs_row HBS2.out #[.int .i64 5, .int .i64 2, .int .i64 2, .slice da 1 dc] 44 1 rfl rfl (fun W => by go_simp) ?_
          intro K hK qr Wr8 H8
          have HBS8 := hid_mk H8.out.1
          go_simp
          refine hK _ _ ?_
          clear hK K
          have HEN := hid_mk (show EntsR Wr8 (.slice (some ⟨qr, 0, none⟩) 1 1) [eN 5 2] from ents_blk (ps := [(eN 5 2, .slice da 1 dc)]) H8.out.2.2 (by intro p hp; simp at hp; subst hp; exact ⟨HDV.out.kept (grown_trans HB2.out.2 H8.out.2.1), by simp [eN]⟩))
          refine fork1 3 (by kernel_rfl) ?_
          refine bs_call HBS8.out 24 #[viewV 0 0 (.slice (some ⟨g3, 0, none⟩) 3 3), .int .i64 1, .int .i64 1, .slice (some ⟨qr, 0, none⟩) 1 1] (fun v W1 W' => ∃ va vc ps, v = fitV ⟨true, 2, 2, [eN 5 2]⟩ (.slice va 1 vc) ∧ EO W1 W' (.slice va 1 vc) ps ∧ ps.map (·.1) = [eN 5 2]) rfl rfl (fun W => by unfold viewV; go_simp) (fun W1 hW1 => (try_any 0 0 _ es3 1 1 _ [eN 5 2] W1 (HES.out.kept (grown_trans HBS8.out.gr hW1)) (HEN.out.kept (hW1)) (by decide) (by simp) (by unfold I64; omega) (by unfold I64; omega)).mono (by
              rintro e W' ⟨av, ps, rfl, heo, hmap⟩
              rw [try_c] at hmap ⊢
              obtain ⟨va, vc, hv⟩ := row_shape heo.row
              subst hv
              have hl : ps.length = 1 := by have := congrArg List.length hmap; simpa using this
              rw [hl] at heo ⊢
              exact ⟨_, rfl, ⟨va, vc, ps, rfl, heo, hmap⟩, heo.gr⟩)) ?_
          intro K hK v W1 Wc9 H9
          obtain ⟨hbs9, hg1, hg2, va, vc, ps, hv, hrd, hmp⟩ := H9.out
          subst hv
          have HBS9 := hid_mk hbs9
          have HRD := hid_mk (show EO w7 Wc9 (.slice va 1 vc) ps ∧ ps.map (·.1) = [eN 5 2] from ⟨hrd.base (grown_trans HBS8.out.gr hg1), hmp⟩)
          clear hmp
          have HRW := hid_mk (grown_refl Wc9 (none : Option Nat))
          clear hbs9 hg1 hg2 hrd H9
          unfold fitV
          go_simp
          refine hK _ _ ?_
          clear hK K
          refine fork1 5 (by kernel_rfl) ?_
          refine bs_store q HBS9.out #[.bool true, .int .i64 2, .int .i64 2, .slice va 1 vc] (fun W => (((W.setCell ⟨q, 0, none⟩ (.bool true)).setCell ⟨q, 1, none⟩ (.int .i64 2)).setCell ⟨q, 2, none⟩ (.int .i64 2)).setCell ⟨q, 3, none⟩ (.slice va 1 vc)) (fun W hb => FB.put (show FB W q false 0 0 (.slice none 0 0) from hb) _ _ _ _) rfl rfl (fun W hb => by
            obtain ⟨e0, e1, e2, e3⟩ := (show FB W q false 0 0 (.slice none 0 0) from hb).cells
            have ef := fun j => hb.frozen j
            first | (left; go_simp; done) | (right; apply Exists.intro; go_simp; rfl) | (right; apply Exists.intro; go_simp)) rfl ?_
          intro K hK Ws HS
          refine hK _ _ ?_
          clear hK K
          refine fork_end (by kernel_rfl) ?_
          rintro Wz ⟨mz, rfl⟩
          go_wp2_with fail
          go_meet
          case rel =>
           refine ⟨q, va, vc, ps, rfl, hid_mk ⟨grown_trans HS.out.1 (grown_drewN _ mz none), (show FB Ws q true 2 2 (.slice va 1 vc) from HS.out.2.2.1).kept (grown_drewN _ mz none) (by simp), ?_, HRD.out.2⟩⟩
           exact ((HRD.out.1).but (HBS9.out.box q rfl).1 (by decide) (by decide) (HBS9.out.box q rfl).2 HS.out.2.1).kept (grown_drewN _ mz none)
      · refine bs_box #[.bool false, .int .i64 0, .int .i64 0, .slice none 0 0] HX0.out rfl rfl (fun W => by go_simp) ?_
        intro K hK q Wb1 HB1
        have HBS1 := hid_mk HB1.out.1
        go_simp
        refine hK _ _ ?_
        clear hK K
        refine fork1 1 (by kernel_rfl) ?_
        refine bs_call HBS1.out 40 #[.int .i64 5, .int .i64 2] (fun v _ W' => ∃ dv, v = entV (eN 5 2) dv ∧ Byt W' dv [UInt8.ofNat 5]) rfl rfl (fun W => by go_simp) (fun W1 hW1 => (entry_any 5 2 (by omega) (by omega) W1).mono (by rintro e W' ⟨v, rfl, ⟨dv, rfl, ho⟩, hg⟩; exact ⟨_, rfl, ⟨dv, rfl, ho.byt⟩, hg⟩)) ?_
        intro K hK v W1 Wc11 H11
        obtain ⟨hbs11, hg1, hg2, dv, hv, hby⟩ := H11.out
        subst hv
        have HBS11 := hid_mk hbs11
        have HDV := hid_mk hby
        have HWC := hid_mk (show w7.grownBy Wc11 none from hbs11.gr)
        obtain ⟨da, dc, hdl⟩ : ∃ a c, dv = .slice a 1 c := hby.len
        subst hdl
        unfold entV eN
        clear hbs11 hg1 hg2 hby H11
        go_simp
        refine hK _ _ ?_
        clear hK K
        refine fork1 2 (by kernel_rfl) ?_
        refine bs_row HBS11.out #[.int .i64 5, .int .i64 2, .int .i64 2, .slice da 1 dc] 44 1 rfl rfl (fun W => by go_simp) ?_
        intro K hK qr Wr12 H12
        have HBS12 := hid_mk H12.out.1
        go_simp
        refine hK _ _ ?_
        clear hK K
        have HEN := hid_mk (show EntsR Wr12 (.slice (some ⟨qr, 0, none⟩) 1 1) [eN 5 2] from ents_blk (ps := [(eN 5 2, .slice da 1 dc)]) H12.out.2.2 (by intro p hp; simp at hp; subst hp; exact ⟨HDV.out.kept (H12.out.2.1), by simp [eN]⟩))
        refine fork1 3 (by kernel_rfl) ?_
        refine bs_call HBS12.out 24 #[viewV 0 0 (.slice (some ⟨g3, 0, none⟩) 3 3), .int .i64 1, .int .i64 1, .slice (some ⟨qr, 0, none⟩) 1 1] (fun v W1 W' => ∃ va vc ps, v = fitV ⟨true, 2, 2, [eN 5 2]⟩ (.slice va 1 vc) ∧ EO W1 W' (.slice va 1 vc) ps ∧ ps.map (·.1) = [eN 5 2]) rfl rfl (fun W => by unfold viewV; go_simp) (fun W1 hW1 => (try_any 0 0 _ es3 1 1 _ [eN 5 2] W1 (HES.out.kept (grown_trans HBS12.out.gr hW1)) (HEN.out.kept (hW1)) (by decide) (by simp) (by unfold I64; omega) (by unfold I64; omega)).mono (by
            rintro e W' ⟨av, ps, rfl, heo, hmap⟩
            rw [try_c] at hmap ⊢
            obtain ⟨va, vc, hv⟩ := row_shape heo.row
            subst hv
            have hl : ps.length = 1 := by have := congrArg List.length hmap; simpa using this
            rw [hl] at heo ⊢
            exact ⟨_, rfl, ⟨va, vc, ps, rfl, heo, hmap⟩, heo.gr⟩)) ?_
        intro K hK v W1 Wc13 H13
        obtain ⟨hbs13, hg1, hg2, va, vc, ps, hv, hrd, hmp⟩ := H13.out
        subst hv
        have HBS13 := hid_mk hbs13
        have HRD := hid_mk (show EO w7 Wc13 (.slice va 1 vc) ps ∧ ps.map (·.1) = [eN 5 2] from ⟨hrd.base (grown_trans HBS12.out.gr hg1), hmp⟩)
        clear hmp
        have HRW := hid_mk (grown_refl Wc13 (none : Option Nat))
        clear hbs13 hg1 hg2 hrd H13
        unfold fitV
        go_simp
        refine hK _ _ ?_
        clear hK K
        refine fork1 5 (by kernel_rfl) ?_
        refine bs_store q HBS13.out #[.bool true, .int .i64 2, .int .i64 2, .slice va 1 vc] (fun W => (((W.setCell ⟨q, 0, none⟩ (.bool true)).setCell ⟨q, 1, none⟩ (.int .i64 2)).setCell ⟨q, 2, none⟩ (.int .i64 2)).setCell ⟨q, 3, none⟩ (.slice va 1 vc)) (fun W hb => FB.put (show FB W q false 0 0 (.slice none 0 0) from hb) _ _ _ _) rfl rfl (fun W hb => by
          obtain ⟨e0, e1, e2, e3⟩ := (show FB W q false 0 0 (.slice none 0 0) from hb).cells
          have ef := fun j => hb.frozen j
          first | (left; go_simp; done) | (right; apply Exists.intro; go_simp; rfl) | (right; apply Exists.intro; go_simp)) rfl ?_
        intro K hK Ws HS
        refine hK _ _ ?_
        clear hK K
        refine fork_end (by kernel_rfl) ?_
        rintro Wz ⟨mz, rfl⟩
        go_wp2_with fail
        go_meet
        case rel =>
         refine ⟨q, va, vc, ps, rfl, hid_mk ⟨grown_trans HS.out.1 (grown_drewN _ mz none), (show FB Ws q true 2 2 (.slice va 1 vc) from HS.out.2.2.1).kept (grown_drewN _ mz none) (by simp), ?_, HRD.out.2⟩⟩
         exact ((HRD.out.1).but (HBS13.out.box q rfl).1 (by decide) (by decide) (HBS13.out.box q rfl).2 HS.out.2.1).kept (grown_drewN _ mz none)
    case rest =>
      obtain ⟨q, va, vc, ps, rfl, HA⟩ := hcut
      clear HX0 HCL
      rename World => w9
      obtain ⟨v0, v1, v2⟩ := (H8.out.2.2.1.kept HA.out.1 (by simp)).cells
      obtain ⟨x0, x1, x2, x3⟩ := (H8.out.1.kept HA.out.1 (by simp)).cells
      obtain ⟨y0, y1, y2, y3⟩ := (H8.out.2.1.kept HA.out.1 (by simp)).cells
      obtain ⟨z0, z1, z2, z3⟩ := HA.out.2.1.cells
      go_wp2_with fail
      rw [← HV.out]
      have hr9 := HA.out.2.2.1.reads
      rw [HA.out.2.2.2] at hr9
      refine (do_cut 0 0 _ es3 true 2 2 _ [eN 5 2] w9 (HES.out.kept HA.out.1) hr9 do_c.2.1 (by omega) (by unfold I64; omega) (by rw [do_c.1]; decide) (by rw [do_c.1]; exact do_c.2.2)).mono ?_
      rintro e w10 ⟨lv, qs, rfl, heo, hmap⟩
      obtain ⟨wa, wc, hv⟩ := row_shape heo.row
      subst hv
      have hl : qs.length = 2 := by have := congrArg List.length hmap; rw [do_c.1] at this; simpa [es3] using this
      rw [hl, HV.out]
      have HG := hid_mk (grown_trans (grown_trans H8.out.2.2.2 HA.out.1) heo.gr)
      clear heo hmap hl hr9 HA H8
      unfold viewV
      have hfv := fun W => field_view 0 0 (.slice wa 2 wc) W
      go_wp2
      go_ret
      exact ⟨rfl, HG.out⟩
end Go.Proofs.Ytckblgpalbedhaa.W
