/- vote: VoteOne: the walk. -/
import Derived.Test.YtgplhgogjcgmeaaVtQ
namespace Go.Proofs.Ytgplhgogjcgmeaa
open Go.RowKit Go.Maps
set_option linter.unusedVariables false
set_option linter.unusedSimpArgs false
set_option maxRecDepth 100000


set_option maxHeartbeats 8000000 in
theorem voteOne_walk (m : Meg) (v u : Value) (l : List Ask) (fs : List Bool) (w : World) (hm : Wf m.t ∧ Wf m.f) (h : AsksOk w v l) (k : BoolsOk w u fs) : Calls Try.prog 5 #[m.v, v, u] w fun e w' => e = .returned (.bool true) ∧ w.grownBy w' none := by
  obtain ⟨a1, c1, rfl⟩ := h.1.len
  obtain ⟨a2, c2, rfl⟩ := k.1.len
  have HH := hid_mk (And.intro h k)
  have hl := h.2.1
  have hfl := k.2
  clear h k
  obtain ⟨mt0, mf0, mi0, ml0, mfr0⟩ := m
  have HM := hid_mk (fun W => me_gr ⟨mt0, mf0, mi0, ml0, mfr0⟩ W)
  have HMW := hid_mk hm
  clear hm
  unfold Meg.v at *
  simp only at *
  go_enter Try.func5, Try.ntmps5
  go_wp2_with fail
  refine (HM.out _).mono ?_
  rintro e W1 ⟨rfl, hg⟩
  have H1 := hid_mk (grown_trans (ga (grown_refl w none) _) hg)
  clear hg HM
  have hmm := @run_makeMap Try.prog
  have HV := hid_mk (show VO w ((W1.alloc (.cells #[.int .i64 mt0, .int .i64 mf0, .int .i64 mi0, .int .i64 ml0, .bool mfr0] 26)).alloc (.map #[] 0)) W1.heap.size (W1.heap.size + 1) 0 ⟨mt0, mf0, mi0, ml0, mfr0⟩ from
    ⟨ga (ga H1.out _) _, Blk.kept (show Blk (W1.alloc _) _ _ _ from heap_alloc_new W1 _) (World.grownBy_alloc _ _ none) (by simp), H1.out.size, ⟨.map [], by have := World.ownsMap_made (W1.alloc (.cells #[.int .i64 mt0, .int .i64 mf0, .int .i64 mi0, .int .i64 ml0, .bool mfr0] 26)) Try.prog 3 (plainElem (H := Unit) Try.prog 3); simpa using this, fun t h => by simp [Maps.has] at h, fun h => by simp [Maps.has] at h⟩, Nat.le_trans H1.out.size (by omega), HMW.out.1, HMW.out.2⟩)
  go_upto_if 20 with fail
  have HXB := hid_mk (show w.heap.size ≤ W1.heap.size from H1.out.size)
  generalize (W1.alloc (.cells #[.int .i64 mt0, .int .i64 mf0, .int .i64 mi0, .int .i64 ml0, .bool mfr0] 26)).alloc (.map #[] 0) = w0 at *
  generalize hgb : W1.heap.size + 1 = gb at *
  generalize hxb : W1.heap.size = xb at *
  clear hgb hxb H1
  go_cut [21] (fun s21 wx => ∃ n : Nat, n ≤ 1 ∧ Hid (VO w wx xb gb n ⟨mt0, mf0, mi0, ml0, mfr0⟩))
  case first =>
    by_cases hf : mf0 = -1
    · have hf' : (mf0 != -1) = false := by simp [hf]
      go_wp2_with fail
      go_meet
      case rel => exact ⟨0, by omega, HV⟩
    · have hf' : (mf0 != -1) = true := by simp [hf]
      have x0 : w0.cell? ⟨xb, 0, none⟩ = some (.int .i64 mt0) := by rw [HV.out.x.cell]; rfl
      have x1 : w0.cell? ⟨xb, 1, none⟩ = some (.int .i64 mf0) := by rw [HV.out.x.cell]; rfl
      obtain ⟨D, hD, hGI⟩ := HV.out.map
      have hkey := keyOf_int_mk Try.underlying3 HV.out.wt
      have hpl := plainElem_int (H := Unit) Try.underlying3 HV.out.wff
      simp only at hkey hpl
      have HGI := hid_mk hGI
      clear hGI
      go_wp2_with (at_mapUpdate; refine wpList_mapUpdate_in _ rfl _ _ _ 42 rfl 3 3 key3 Try.underlying42 _ gb 0 D rfl hD (by decide) _ _ _ rfl rfl hkey _ [] hpl ?_; intro w1 hown1 hturn1)
      go_meet
      case rel =>
        have hg := hturn1.grown
        have hne := HV.out.ne
        exact ⟨1, by omega, hid_mk ⟨grown_new HV.out.gr hg HV.out.glo, HV.out.x.kept hg (by simpa using hne.symm), HV.out.xlo, ⟨_, hown1, HGI.out.put (hD.tidy key3) mf0 hf⟩, HV.out.glo, HV.out.wt, HV.out.wff⟩⟩
  case rest =>
    obtain ⟨n0, hn0, HV1⟩ := hcut
    have HV0 := hid_mk (And.intro hn0 HV1.out)
    clear HV HV1 hn0
    go_wp2_with fail
    go_loopg [9] l.length (fun g iv W => ∃ (k n : Nat) (m : Meg), k ≤ l.length ∧ g = l.length - k ∧ n ≤ k + 1 ∧ iv = .int .i64 k ∧ Hid (VO w W xb gb n m))
    case atStart => exact ⟨0, _, _, Nat.zero_le _, rfl, HV0.out.1, rfl, hid_mk HV0.out.2⟩
    case round =>
      clear HV0
      obtain ⟨k, n, m, hk, hgk, hnk, rfl, H⟩ := hrel
      rename World => W
      by_cases hlt : k < l.length
      · have hlt' : (k : Int) < l.length := by omega
        obtain ⟨mt, mf, mi, ml, mfr⟩ := m
        have x4 : W.cell? ⟨xb, 4, none⟩ = some (.bool mfr) := by rw [H.out.x.cell]; rfl
        have xf := H.out.x.frozen 4
        go_upto_region 8 with fail
        go_cut [41] (fun s41 wx => ∃ fi : Bool, s41 = .bool fi ∧ Hid (VO w wx xb gb n ⟨mt, mf, mi, ml, fi⟩))
        case first =>
          by_cases hkf : k < fs.length
          · have hkf' : (k : Int) < fs.length := by omega
            obtain ⟨b1, off1, cap1, e, hc1⟩ := (HH.out.2.1.kept H.out.gr).get k hkf
            injection e with e1 e2 e3
            subst e1
            clear e2 e3
            generalize fs[k] = fi at *
            go_wp2_with fail
            go_meet
            case rel => exact ⟨fi, rfl, hid_mk (H.out.fresh fi)⟩
          · have hkf' : ¬ (k : Int) < fs.length := by omega
            go_wp2_with fail
            go_meet
            case rel => exact ⟨false, rfl, hid_mk (H.out.fresh false)⟩
        case rest =>
          obtain ⟨fi, rfl, H1⟩ := hcut
          rename World => w1
          clear x4 xf H
          obtain ⟨b1, off1, cap1, e, hl0, hl1, hl2, hl3⟩ := HH.out.1.1.get k hlt
          injection e with e1 e2 e3
          subst e1
          clear e2 e3
          have HW := hid_mk (HH.out.1.2.2 l[k] (List.getElem_mem hlt))
          have HN := hid_mk (fun W => ask_gr l[k] W)
          obtain ⟨D, hD⟩ := H1.out.map
          have HD := hid_mk hD
          have HAn := hid_mk (fun W => answer_any ⟨mt, mf, mi, ml, fi⟩ l[k] W)
          have HF := hid_mk (ans_facts hD.2 l[k])
          generalize ans ⟨mt, mf, mi, ml, fi⟩ l[k] = r at *
          obtain ⟨⟨rt, rf, ri, rl, rfr⟩, yes, sil⟩ := r
          generalize l[k] = a at *
          obtain ⟨at', af, ai, al⟩ := a
          clear hD
          unfold ansV Meg.v Ask.v at *
          simp only at *
          have HL := hid_mk (And.intro hl0 (And.intro hl1 (And.intro hl2 hl3)))
          clear hl0 hl1 hl2 hl3
          have HAll : ∀ W0, w1.grownBy W0 none → W0.cell? ⟨xb, 0, none⟩ = some (.int .i64 mt) ∧ W0.cell? ⟨xb, 1, none⟩ = some (.int .i64 mf) ∧ W0.cell? ⟨xb, 2, none⟩ = some (.int .i64 mi) ∧ W0.cell? ⟨xb, 3, none⟩ = some (.int .i64 ml) ∧ W0.cell? ⟨xb, 4, none⟩ = some (.bool fi) ∧ W0.cell? ⟨b1, off1 + k * 4, none⟩ = some (.int .i64 at') ∧ W0.cell? ⟨b1, off1 + k * 4 + 1, none⟩ = some (.int .i64 af) ∧ W0.cell? ⟨b1, off1 + k * 4 + 2, none⟩ = some (.int .i64 ai) ∧ W0.cell? ⟨b1, off1 + k * 4 + 3, none⟩ = some (.int .i64 al) := fun W0 hW => by
            have h1 := H1.out.x.kept hW (by simp)
            have h2 := grown_trans H1.out.gr hW
            exact ⟨by rw [h1.cell]; rfl, by rw [h1.cell]; rfl, by rw [h1.cell]; rfl, by rw [h1.cell]; rfl, by rw [h1.cell]; rfl, h2.cell HL.out.1 (by simp), h2.cell HL.out.2.1 (by simp), h2.cell HL.out.2.2.1 (by simp), h2.cell HL.out.2.2.2 (by simp)⟩
          have HX0 := hid_mk (show BS w1 w1 26 none from ⟨grown_refl _ _, fun q e => by cases e⟩)
          go_upto_region 9 with fail
          go_cut [10, 11, 12] (fun s5 s6 s7 wx => ∃ q : Nat, s5 = .pointer (some ⟨q, 0, none⟩) ∧ s6 = .bool yes ∧ s7 = .bool sil ∧ Hid (w1.grownBy wx none ∧ Blk wx q #[.int .i64 rt, .int .i64 rf, .int .i64 ri, .int .i64 rl, .bool rfr] 26))
          case first =>
            refine wp_region_fork (X := fun _ _ _ => False) [(0, true), (1, true), (2, true), (3, true), (4, true)] 10 #[true, true, true, true, true, false, false, false, false, false, false, false, false, false, false] (cl w1 w1) (by kernel_rfl) (by kernel_rfl) rfl (by kernel_rfl) (fun _ _ _ h => h.elim) (shut_at0 (fun mm => grown_trans HX0.out.gr (grown_drewN _ mm _))) ⟨1, rfl⟩ ?_
            repeat (refine mix_rd1X rfl rfl (fun K hK => ?_); apply Exists.intro; refine ⟨fun W0 hW => ?_, ?_⟩; (obtain ⟨f0, f1, f2, f3, f4, g0, g1, g2, g3⟩ := HAll W0 hW; go_simp; rfl); (go_simp; refine hK _ _ ?_; clear hK K))
            refine mix_nilX ?_
            refine fork2 5 11 (by kernel_rfl) ?_ ?_
            · refine bs_call HX0.out 11 #[.agg #[.int .i64 at', .int .i64 af, .int .i64 ai, .int .i64 al]] (.agg #[.int .i64 at', .int .i64 af, .int .i64 ai, .int .i64 al]) rfl rfl (fun W => by go_simp) HN.out ?_
              intro K hK Wc1 HX1
              go_simp
              refine hK _ _ ?_
              clear hK K
              refine fork2 6 11 (by kernel_rfl) ?_ ?_
              · refine bs_call HX1.out 9 #[.agg #[.int .i64 mt, .int .i64 mf, .int .i64 mi, .int .i64 ml, .bool fi], .agg #[.int .i64 at', .int .i64 af, .int .i64 ai, .int .i64 al]] (.tuple #[.agg #[.int .i64 rt, .int .i64 rf, .int .i64 ri, .int .i64 rl, .bool rfr], .bool yes, .bool sil]) rfl rfl (fun W => by go_simp) HAn.out ?_
                intro K hK Wc2 HX2
                go_simp
                refine hK _ _ ?_
                clear hK K
                refine reads_first (by kernel_rfl) [(7, true), (8, true), (9, true), (10, true)] 4 8 rfl _ #[true, true, true, true, true, true, true, true, true, true, true, false, false, false, false] (by kernel_rfl) ?_
                repeat (refine mix_rd1X rfl rfl (fun K hK => ?_); apply Exists.intro; refine ⟨fun W0 hW => ?_, ?_⟩; (go_simp; rfl); (go_simp; refine hK _ _ ?_; clear hK K))
                refine mix_nilX ?_
                refine fork1 11 (by kernel_rfl) ?_
                refine bs_box HX2.out rfl rfl (fun W => by go_simp) ?_
                intro K hK q3 Wb3 HB3
                go_simp
                refine hK _ _ ?_
                clear hK K
                refine fork1 12 (by kernel_rfl) ?_
                refine bs_store q3 HB3.out (.int .i64 rt) (.int .i64 rf) (.int .i64 ri) (.int .i64 rl) (.bool rfr) rfl rfl (fun W hb => by
                  have e0 : W.cell? ⟨q3, 0, none⟩ = some (zer.getD 0 undef) := by rw [hb.cell]; rfl
                  have e1 : W.cell? ⟨q3, 1, none⟩ = some (zer.getD 1 undef) := by rw [hb.cell]; rfl
                  have e2 : W.cell? ⟨q3, 2, none⟩ = some (zer.getD 2 undef) := by rw [hb.cell]; rfl
                  have e3 : W.cell? ⟨q3, 3, none⟩ = some (zer.getD 3 undef) := by rw [hb.cell]; rfl
                  have e4 : W.cell? ⟨q3, 4, none⟩ = some (zer.getD 4 undef) := by rw [hb.cell]; rfl
                  have ef := fun j => hb.frozen j
                  simp only [zer, Array.getD_eq_getD_getElem?] at e0 e1 e2 e3 e4
                  unfold laid5
                  first | (left; go_simp; done) | (right; apply Exists.intro; go_simp; rfl) | (right; apply Exists.intro; go_simp)) rfl ?_
                intro K hK Ws4 HS4
                refine hK _ _ ?_
                clear hK K
                refine reads_first (by kernel_rfl) [(13, true), (14, true)] 0 2 rfl _ #[true, true, true, true, true, true, true, true, true, true, true, true, true, true, true] (by kernel_rfl) ?_
                repeat (refine mix_rd1X rfl rfl (fun K hK => ?_); apply Exists.intro; refine ⟨fun W0 hW => ?_, ?_⟩; (go_simp; rfl); (go_simp; refine hK _ _ ?_; clear hK K))
                refine mix_nilX ?_
                refine fork_end (by kernel_rfl) ?_
                rintro Wz ⟨mz, rfl⟩
                go_wp2_with fail
                go_meet
                case rel => exact ⟨q3, rfl, rfl, rfl, hid_mk ⟨grown_trans HS4.out.1 (grown_drewN _ _ none), HS4.out.2.1.kept (grown_drewN _ _ none) (by simp)⟩⟩
              · refine bs_box HX1.out rfl rfl (fun W => by go_simp) ?_
                intro K hK q5 Wb5 HB5
                go_simp
                refine hK _ _ ?_
                clear hK K
                refine fork1 6 (by kernel_rfl) ?_
                refine bs_call HB5.out 9 #[.agg #[.int .i64 mt, .int .i64 mf, .int .i64 mi, .int .i64 ml, .bool fi], .agg #[.int .i64 at', .int .i64 af, .int .i64 ai, .int .i64 al]] (.tuple #[.agg #[.int .i64 rt, .int .i64 rf, .int .i64 ri, .int .i64 rl, .bool rfr], .bool yes, .bool sil]) rfl rfl (fun W => by go_simp) HAn.out ?_
                intro K hK Wc6 HX6
                go_simp
                refine hK _ _ ?_
                clear hK K
                refine reads_first (by kernel_rfl) [(7, true), (8, true), (9, true), (10, true)] 3 7 rfl _ #[true, true, true, true, true, true, true, true, true, true, true, true, false, false, false] (by kernel_rfl) ?_
                repeat (refine mix_rd1X rfl rfl (fun K hK => ?_); apply Exists.intro; refine ⟨fun W0 hW => ?_, ?_⟩; (go_simp; rfl); (go_simp; refine hK _ _ ?_; clear hK K))
                refine mix_nilX ?_
                refine fork1 12 (by kernel_rfl) ?_
                refine bs_store q5 HX6.out (.int .i64 rt) (.int .i64 rf) (.int .i64 ri) (.int .i64 rl) (.bool rfr) rfl rfl (fun W hb => by
                  have e0 : W.cell? ⟨q5, 0, none⟩ = some (zer.getD 0 undef) := by rw [hb.cell]; rfl
                  have e1 : W.cell? ⟨q5, 1, none⟩ = some (zer.getD 1 undef) := by rw [hb.cell]; rfl
                  have e2 : W.cell? ⟨q5, 2, none⟩ = some (zer.getD 2 undef) := by rw [hb.cell]; rfl
                  have e3 : W.cell? ⟨q5, 3, none⟩ = some (zer.getD 3 undef) := by rw [hb.cell]; rfl
                  have e4 : W.cell? ⟨q5, 4, none⟩ = some (zer.getD 4 undef) := by rw [hb.cell]; rfl
                  have ef := fun j => hb.frozen j
                  simp only [zer, Array.getD_eq_getD_getElem?] at e0 e1 e2 e3 e4
                  unfold laid5
                  first | (left; go_simp; done) | (right; apply Exists.intro; go_simp; rfl) | (right; apply Exists.intro; go_simp)) rfl ?_
                intro K hK Ws7 HS7
                refine hK _ _ ?_
                clear hK K
                refine reads_first (by kernel_rfl) [(13, true), (14, true)] 0 2 rfl _ #[true, true, true, true, true, true, true, true, true, true, true, true, true, true, true] (by kernel_rfl) ?_
                repeat (refine mix_rd1X rfl rfl (fun K hK => ?_); apply Exists.intro; refine ⟨fun W0 hW => ?_, ?_⟩; (go_simp; rfl); (go_simp; refine hK _ _ ?_; clear hK K))
                refine mix_nilX ?_
                refine fork_end (by kernel_rfl) ?_
                rintro Wz ⟨mz, rfl⟩
                go_wp2_with fail
                go_meet
                case rel => exact ⟨q5, rfl, rfl, rfl, hid_mk ⟨grown_trans HS7.out.1 (grown_drewN _ _ none), HS7.out.2.1.kept (grown_drewN _ _ none) (by simp)⟩⟩
            · refine bs_box HX0.out rfl rfl (fun W => by go_simp) ?_
              intro K hK q8 Wb8 HB8
              go_simp
              refine hK _ _ ?_
              clear hK K
              refine fork1 5 (by kernel_rfl) ?_
              refine bs_call HB8.out 11 #[.agg #[.int .i64 at', .int .i64 af, .int .i64 ai, .int .i64 al]] (.agg #[.int .i64 at', .int .i64 af, .int .i64 ai, .int .i64 al]) rfl rfl (fun W => by go_simp) HN.out ?_
              intro K hK Wc9 HX9
              go_simp
              refine hK _ _ ?_
              clear hK K
              refine fork1 6 (by kernel_rfl) ?_
              refine bs_call HX9.out 9 #[.agg #[.int .i64 mt, .int .i64 mf, .int .i64 mi, .int .i64 ml, .bool fi], .agg #[.int .i64 at', .int .i64 af, .int .i64 ai, .int .i64 al]] (.tuple #[.agg #[.int .i64 rt, .int .i64 rf, .int .i64 ri, .int .i64 rl, .bool rfr], .bool yes, .bool sil]) rfl rfl (fun W => by go_simp) HAn.out ?_
              intro K hK Wc10 HX10
              go_simp
              refine hK _ _ ?_
              clear hK K
              refine reads_first (by kernel_rfl) [(7, true), (8, true), (9, true), (10, true)] 3 7 rfl _ #[true, true, true, true, true, true, true, true, true, true, true, true, false, false, false] (by kernel_rfl) ?_
              repeat (refine mix_rd1X rfl rfl (fun K hK => ?_); apply Exists.intro; refine ⟨fun W0 hW => ?_, ?_⟩; (go_simp; rfl); (go_simp; refine hK _ _ ?_; clear hK K))
              refine mix_nilX ?_
              refine fork1 12 (by kernel_rfl) ?_
              refine bs_store q8 HX10.out (.int .i64 rt) (.int .i64 rf) (.int .i64 ri) (.int .i64 rl) (.bool rfr) rfl rfl (fun W hb => by
                have e0 : W.cell? ⟨q8, 0, none⟩ = some (zer.getD 0 undef) := by rw [hb.cell]; rfl
                have e1 : W.cell? ⟨q8, 1, none⟩ = some (zer.getD 1 undef) := by rw [hb.cell]; rfl
                have e2 : W.cell? ⟨q8, 2, none⟩ = some (zer.getD 2 undef) := by rw [hb.cell]; rfl
                have e3 : W.cell? ⟨q8, 3, none⟩ = some (zer.getD 3 undef) := by rw [hb.cell]; rfl
                have e4 : W.cell? ⟨q8, 4, none⟩ = some (zer.getD 4 undef) := by rw [hb.cell]; rfl
                have ef := fun j => hb.frozen j
                simp only [zer, Array.getD_eq_getD_getElem?] at e0 e1 e2 e3 e4
                unfold laid5
                first | (left; go_simp; done) | (right; apply Exists.intro; go_simp; rfl) | (right; apply Exists.intro; go_simp)) rfl ?_
              intro K hK Ws11 HS11
              refine hK _ _ ?_
              clear hK K
              refine reads_first (by kernel_rfl) [(13, true), (14, true)] 0 2 rfl _ #[true, true, true, true, true, true, true, true, true, true, true, true, true, true, true] (by kernel_rfl) ?_
              repeat (refine mix_rd1X rfl rfl (fun K hK => ?_); apply Exists.intro; refine ⟨fun W0 hW => ?_, ?_⟩; (go_simp; rfl); (go_simp; refine hK _ _ ?_; clear hK K))
              refine mix_nilX ?_
              refine fork_end (by kernel_rfl) ?_
              rintro Wz ⟨mz, rfl⟩
              go_wp2_with fail
              go_meet
              case rel => exact ⟨q8, rfl, rfl, rfl, hid_mk ⟨grown_trans HS11.out.1 (grown_drewN _ _ none), HS11.out.2.1.kept (grown_drewN _ _ none) (by simp)⟩⟩
          case rest =>
            obtain ⟨q, rfl, rfl, rfl, H2⟩ := hcut
            rename World => w2
            obtain ⟨f0, f1, f2, f3, f4, g0, g1, g2, g3⟩ := HAll w2 H2.out.1
            have n0 : w2.cell? ⟨q, 0, none⟩ = some (.int .i64 rt) := by rw [H2.out.2.cell]; rfl
            have n1 : w2.cell? ⟨q, 1, none⟩ = some (.int .i64 rf) := by rw [H2.out.2.cell]; rfl
            have n2 : w2.cell? ⟨q, 2, none⟩ = some (.int .i64 ri) := by rw [H2.out.2.cell]; rfl
            have n3 : w2.cell? ⟨q, 3, none⟩ = some (.int .i64 rl) := by rw [H2.out.2.cell]; rfl
            have n4 : w2.cell? ⟨q, 4, none⟩ = some (.bool rfr) := by rw [H2.out.2.cell]; rfl
            have HX := hid_mk (H1.out.x.kept H2.out.1 (by simp))
            simp only at HX
            have xf := fun j => HX.out.frozen j
            have HOW := hid_mk (And.intro (HD.out.1.kept H2.out.1 (by simp)) (And.intro HD.out.2 (grown_trans H1.out.gr H2.out.1)))
            have hup : ¬ rt < mt := HF.out.up
            have HFW := hid_mk (And.intro (HF.out.wt H1.out.wt HW.out.1) (HF.out.wff H1.out.wff HW.out.2))
            simp only at HFW
            clear HAll HAn HN
            cases yes
            · have HNo := hid_mk (HF.out.no rfl)
              cases sil
              · clear HF
                go_wp2_with fail
                go_roundg (l.length - (k + 1))
                case measure => omega
                case rel => exact ⟨k + 1, n, ⟨rt, rf, ri, rl, rfr⟩, by omega, rfl, by omega, by go_num, hid_mk (VO.turn (x := ⟨mt, mf, mi, ml, fi⟩) HX.out H1.out.xlo HOW.out.2.2 HOW.out.1 HNo.out H1.out.glo HFW.out.1 HFW.out.2 rfl)⟩
              · have hsame := HF.out.same rfl
                injection hsame with e1 e2 e3 e4 e5
                subst e1 e2 e3 e4 e5
                have hq := fun W => (eq26 ⟨rt, rf, ri, rl, rfr⟩ ⟨rt, rf, ri, rl, rfr⟩ W).trans (by rw [decide_eq_true rfl])
                unfold Meg.v at hq
                simp only at hq
                clear HF
                go_wp2_with fail
                go_roundg (l.length - (k + 1))
                case measure => omega
                case rel => exact ⟨k + 1, n, ⟨rt, rf, ri, rl, rfr⟩, by omega, rfl, by omega, by go_num, hid_mk (VO.turn (x := ⟨rt, rf, ri, rl, rfr⟩) HX.out H1.out.xlo HOW.out.2.2 HOW.out.1 HNo.out H1.out.glo HFW.out.1 HFW.out.2 rfl)⟩
            · obtain rfl : sil = false := HF.out.one rfl
              obtain rfl : rt = at' := HF.out.term rfl
              obtain ⟨c, hlook, hc⟩ := look3 HOW.out.1 HW.out.1
              have HMet := hid_mk (fun h => (HF.out.met rfl h).symm.trans hc)
              have HPut := hid_mk (fun h => HF.out.put rfl h (HD.out.1.tidy key3))
              have HNob := hid_mk (fun h => HF.out.nobody rfl h)
              simp only at HPut HNob HMet hlook
              have HLk : Hid (has D (klit rt) = false ∨ has D (klit rt) = true ∧ c = af) := hid_mk (by
                cases hb : has D (klit rt)
                · exact .inl rfl
                · refine .inr ⟨rfl, ?_⟩
                  have := HMet.out hb
                  simp at this
                  exact this.symm)
              clear HF HMet hc
              generalize has D (klit rt) = hb at *
              go_upto_region 14 with fail
              go_cut [103] (fun s103 wx => ∃ nq, s103 = .bool false ∧ wx = w2.drewN nq)
              case first =>
                rcases HLk.out with rfl | ⟨rfl, rfl⟩
                · go_quiet (fail)
                  go_wp2_with fail
                  go_meet
                  case rel => exact ⟨_, rfl, rfl⟩
                · go_quiet (fail)
                  go_wp2_with fail
                  go_meet
                  case rel => exact ⟨_, rfl, rfl⟩
              case rest =>
                obtain ⟨nq, rfl, rfl⟩ := hcut
                clear HLk
                by_cases haf : af = -1
                · have haf' : (af != -1) = false := by simp [haf]
                  have HNb := hid_mk (HNob.out haf)
                  have HHf := hid_mk haf
                  clear haf HNob HPut
                  go_wp2_with fail
                  go_roundg (l.length - (k + 1))
                  case measure => omega
                  case rel => exact ⟨k + 1, n, ⟨rt, rf, ri, rl, rfr⟩, by omega, rfl, by omega, by go_num, hid_mk (VO.turn (x := ⟨mt, mf, mi, ml, fi⟩) (HX.out.kept (grown_drewN w2 nq none) (by simp)) H1.out.xlo (grown_trans HOW.out.2.2 (grown_drewN _ _ none)) (HOW.out.1.kept (grown_drewN _ _ none) (by simp)) HNb.out H1.out.glo HFW.out.1 HFW.out.2 rfl)⟩
                · have haf' : (af != -1) = true := by simp [haf]
                  have HPt := hid_mk (HPut.out haf)
                  have HHf := hid_mk haf
                  clear haf HNob HPut
                  go_upto_region 17 with fail
                  have HCl : ∀ W0, w.grownBy W0 none → W0.cell? ⟨b1, off1 + k * 4, none⟩ = some (.int .i64 rt) ∧ W0.cell? ⟨b1, off1 + k * 4 + 1, none⟩ = some (.int .i64 af) := fun W0 hW => ⟨hW.cell HL.out.1 (by simp), hW.cell HL.out.2.1 (by simp)⟩
                  have HGQ := hid_mk (grown_trans HOW.out.2.2 (grown_drewN w2 nq none))
                  have HNe := hid_mk (And.intro (blk_ne_map H2.out.2 HOW.out.1) (blk_ne_map HX.out HOW.out.1))
                  refine wp_region_mixX (X := fun _ _ _ => False) [(0, true), (1, true), (2, true), (3, true), (4, true), (5, true), (6, true), (7, true), (8, true), (9, true), (10, true), (11, false)] (cl w (w2.drewN nq)) (by kernel_rfl) (by kernel_rfl) rfl (by kernel_rfl) (fun _ _ _ h => h.elim) (shut_at0 (fun mm => grown_trans HGQ.out (grown_drewN _ mm _))) ⟨1, rfl⟩ ?_
                  repeat (refine mix_rd1X rfl rfl (fun K hK => ?_); apply Exists.intro; refine ⟨fun W0 hW => ?_, ?_⟩; (obtain ⟨f0, f1⟩ := HCl W0 hW; go_simp; rfl); (go_simp; refine hK _ _ ?_; clear hK K))
                  refine bm_put HGQ.out (HOW.out.1.kept (grown_drewN _ _ none) (by simp)) (by unfold maxLen; omega) H1.out.glo rt af HW.out.1 HW.out.2 rfl rfl _ _ _ rfl rfl rfl rfl ?_
                  intro K hK w3 HP
                  go_simp
                  refine hK _ _ ?_
                  clear hK K
                  refine mix_nilX ?_
                  rintro Wz ⟨mz, rfl⟩
                  have hgp := grown_trans (grown_drewN w2 nq (some gb)) HP.out.2
                  have HQ3 := hid_mk (And.intro (H2.out.2.kept hgp (by simpa using HNe.out.1)) (HX.out.kept hgp (by simpa using HNe.out.2)))
                  have HG3 := hid_mk (grown_new HOW.out.2.2 hgp H1.out.glo)
                  clear hgp n0 n1 n2 n3 n4 xf f0 f1 f2 f3 f4 g0 g1 g2 g3
                  have n0 : w3.cell? ⟨q, 0, none⟩ = some (.int .i64 rt) := by rw [HQ3.out.1.cell]; rfl
                  have n1 : w3.cell? ⟨q, 1, none⟩ = some (.int .i64 rf) := by rw [HQ3.out.1.cell]; rfl
                  have n2 : w3.cell? ⟨q, 2, none⟩ = some (.int .i64 ri) := by rw [HQ3.out.1.cell]; rfl
                  have n3 : w3.cell? ⟨q, 3, none⟩ = some (.int .i64 rl) := by rw [HQ3.out.1.cell]; rfl
                  have n4 : w3.cell? ⟨q, 4, none⟩ = some (.bool rfr) := by rw [HQ3.out.1.cell]; rfl
                  have f0 : w3.cell? ⟨xb, 0, none⟩ = some (.int .i64 mt) := by rw [HQ3.out.2.cell]; rfl
                  have f1 : w3.cell? ⟨xb, 1, none⟩ = some (.int .i64 mf) := by rw [HQ3.out.2.cell]; rfl
                  have f2 : w3.cell? ⟨xb, 2, none⟩ = some (.int .i64 mi) := by rw [HQ3.out.2.cell]; rfl
                  have f3 : w3.cell? ⟨xb, 3, none⟩ = some (.int .i64 ml) := by rw [HQ3.out.2.cell]; rfl
                  have f4 : w3.cell? ⟨xb, 4, none⟩ = some (.bool fi) := by rw [HQ3.out.2.cell]; rfl
                  have xf := fun j => HQ3.out.2.frozen j
                  go_wp2_with fail
                  go_roundg (l.length - (k + 1))
                  case measure => omega
                  case rel => exact ⟨k + 1, n + 1, ⟨rt, rf, ri, rl, rfr⟩, by omega, rfl, by omega, by go_num, hid_mk (VO.turn (x := ⟨mt, mf, mi, ml, fi⟩) (HQ3.out.2.kept (grown_drewN w3 mz none) (by simp)) H1.out.xlo (grown_trans HG3.out (grown_drewN _ _ none)) (HP.out.1.kept (grown_drewN _ _ none) (by simp)) HPt.out H1.out.glo HFW.out.1 HFW.out.2 rfl)⟩
      · have hlt' : ¬ (k : Int) < l.length := by omega
        go_wp2_with (go_at_call 15; refine (knows_any _).mono ?_; rintro e w2 ⟨rfl, hg⟩; have HG := hid_mk hg; clear hg)
        go_ret
        exact ⟨rfl, grown_trans H.out.gr HG.out⟩
end Go.Proofs.Ytgplhgogjcgmeaa
