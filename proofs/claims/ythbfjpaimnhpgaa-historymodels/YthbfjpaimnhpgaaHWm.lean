/- history: HistoryModels. -/
import Derived.Test.YthbfjpaimnhpgaaHWmb
namespace Go.Proofs.Ythbfjpaimnhpgaa
open Go.RowKit Go.Maps
set_option linter.unusedVariables false
set_option linter.unusedSimpArgs false
set_option maxRecDepth 100000

set_option maxHeartbeats 16000000 in
theorem historyModels_walk (v : Value) (L : List OpG) (w : World) (hL : OpsR w v L) (hl : L.length ≤ 2932031007403) :
    Calls Try.prog 3 #[v] w fun e w' => e = .returned (.bool true) ∧ w.grownBy w' none := by
  obtain ⟨va, vc, hv⟩ := hL.1
  have HL := hid_mk hL
  have HV := hid_mk hv
  rw [hv]
  clear hL hv
  go_enter Try.func3, Try.ntmps3
  go_wp2_with fail
  refine (mod_new w).mono ?_
  rintro e w1 ⟨rfl, hm, hg1⟩
  have H1 := hid_mk (md_new w hm hg1 (Nat.le_refl _))
  clear hm hg1
  obtain ⟨b, hb⟩ : ∃ b, b = w.heap.size := ⟨_, rfl⟩
  rw [← hb] at H1 ⊢
  have HBW := hid_mk hb
  clear hb
  go_wp2_with fail
  generalize w1.alloc (.cells #[.int .i64 0, .slice none 0 0] 28) = w2 at *
  generalize w1.heap.size = bd at *
  refine (knows_any w2).mono ?_
  rintro e w3 ⟨rfl, hg3⟩
  have H3 := hid_mk (H1.out.grown hg3)
  clear hg3 H1
  go_wp2_with fail
  go_loopg [5] L.length (fun gg iv W => ∃ (i : Nat) (vm vl : Value) (R Rd : List RV) (s : Nat), i ≤ L.length ∧ gg = L.length - i ∧ iv = .int .i64 i ∧ Hid (MdI w W b vm bd vl R Rd s s ∧ R.map (·.1) = Rd.map (·.1) ∧ s + R.length ≤ i))
  case atStart => exact ⟨0, _, _, _, _, _, Nat.zero_le _, rfl, rfl, hid_mk ⟨H3.out, rfl, by simp⟩⟩
  case round =>
    clear H3
    obtain ⟨i, vm, vl, R, Rd, s, hi, hgi, rfl, H⟩ := hrel
    rename World => W
    by_cases hlt : i < L.length
    · have hlt' : (i : Int) < L.length := by omega
      obtain ⟨lb, off, cap, he, hc⟩ := HL.out.2.2 i hlt
      rw [HV.out] at he
      injection he with e1 e2 e3
      clear e2 e3
      subst e1
      have HX := hid_mk (HL.out.2.1 _ (List.getElem_mem hlt))
      have d0 := H.out.1.gr.cell (hc 0 _ rfl) (by simp)
      have d1 := H.out.1.gr.cell (hc 1 _ rfl) (by simp)
      have d2 := H.out.1.gr.cell (hc 2 _ rfl) (by simp)
      have d3 := H.out.1.gr.cell (hc 3 _ rfl) (by simp)
      rw [Nat.add_zero] at d0
      obtain ⟨xa, xc, hxv⟩ := HX.out.1.len
      rw [hxv] at d3
      have HBY := hid_mk (show Byt w (.slice xa L[i].b.length xc) L[i].b from by rw [← hxv]; exact HX.out.1)
      clear hc hxv
      generalize L[i] = x at *
      go_upto_region 9 with fail
      clear d0 d1 d2 d3
      have HB := hid_mk (show MdI w (W.alloc (.cells #[.int .i64 x.k, .int .i64 x.fr, .int .i64 x.mo, .slice xa x.b.length xc] 32)) b vm bd vl R Rd s s ∧ Blk (W.alloc (.cells #[.int .i64 x.k, .int .i64 x.fr, .int .i64 x.mo, .slice xa x.b.length xc] 32)) W.heap.size #[.int .i64 x.k, .int .i64 x.fr, .int .i64 x.mo, .slice xa x.b.length xc] 32 ∧ R.map (·.1) = Rd.map (·.1) ∧ s + R.length ≤ i from ⟨H.out.1.grown (World.grownBy_alloc _ _ none), blk_alloc W _ 32, H.out.2⟩)
      generalize (W.alloc (.cells #[.int .i64 x.k, .int .i64 x.fr, .int .i64 x.mo, .slice xa x.b.length xc] 32)) = W1 at *
      generalize W.heap.size = q0 at *
      clear H
      obtain ⟨p0, p1, p2, p3, pf⟩ := blk4 HB.out.2.1
      have hls : Rd.length = R.length := by have h9 := congrArg List.length HB.out.2.2.1; simp only [List.length_map] at h9; omega
      have HLS := hid_mk hls
      clear hls
      by_cases hk0 : x.k = 0
      ·
        rw [hk0] at p0
        have g1 := World.grownBy_alloc W1 (.cells #[] 5) none
        obtain ⟨a1, c1, W2, hr1, ho1, hg1⟩ := run_copyB (own_empty W1) (by simp) ((HBY.out.kept HB.out.1.gr).kept g1) HX.out.2.1 30
        have p3b := g1.cell p3 (by simp)
        have HR1 := hid_mk hr1
        have hgw := grown_new g1 hg1 (Nat.le_refl _)
        have H2 := hid_mk (show MdI w W2 b vm bd vl R Rd s s ∧ Blk W2 q0 #[.int .i64 x.k, .int .i64 x.fr, .int .i64 x.mo, .slice xa x.b.length xc] 32 ∧ Own W2 W1.heap.size (.slice a1 x.b.length c1) x.b ∧ w.heap.size ≤ W1.heap.size ∧ (∀ k, FP b vm bd vl R Rd k → k < W1.heap.size) ∧ s + R.length ≤ i ∧ R.map (·.1) = Rd.map (·.1) from ⟨HB.out.1.grown hgw, HB.out.2.1.kept hgw (by simp), ho1, HB.out.1.gr.size, fun k hk => HB.out.1.lt hk, HB.out.2.2.2, HB.out.2.2.1⟩)
        clear g1 ho1 hg1 hgw hr1
        go_upto_region 23 with (at_builtin; refine wp_run_app rfl (.tmp 89) (.tmp 91) rfl rfl rfl HR1.out ?_)
        clear p0 p1 p2 p3 pf p3b HR1
        have HK0 := hid_mk hk0
        clear hk0
        refine wp_region_mix [(0, true), (1, true), (3, true), (4, true), (5, true), (2, false), (6, false), (7, true), (8, true)] (at0 W2 (fun W => Blk W q0 #[.int .i64 x.k, .int .i64 x.fr, .int .i64 x.mo, .slice xa x.b.length xc] 32)) (by kernel_rfl) (by kernel_rfl) rfl (by kernel_rfl) (shut_at0 (fun m => H2.out.2.1.kept (grown_drewN _ m none) (by simp))) ⟨1, rfl⟩ ?_
        repeat (refine mix_rd1 rfl rfl (fun K hK => ?_); apply Exists.intro; refine ⟨fun W hW => ?_, ?_⟩; (obtain ⟨d0, d1, d2, d3, df⟩ := blk4 hW; go_simp; rfl); (go_simp; refine hK _ _ ?_; clear hK K))
        refine mix_call rfl rfl 10 #[.pointer (some ⟨b, 0, none⟩), .slice a1 x.b.length c1] (fun W0 => by go_simp) ?_
        rintro W0 ⟨m1, rfl⟩
        have hd1 := H2.out.1.grown (grown_drewN W2 m1 none)
        have hfit : s + R.length + 1 ≤ 5864062014805 := by have := H2.out.2.2.2.2.2.1; omega
        refine (pput_any hd1.m x.b _ (own_grown H2.out.2.2.1 (grown_drewN W2 m1 none)).byt HX.out.2.1 hfit).mono ?_
        rintro e W3 ⟨rfl, vm', u1, h2, h3, h4⟩
        have H3 := hid_mk (show MdI w W3 b vm' bd vl (R ++ [(x.b, u1)]) Rd s s ∧ Blk W3 q0 #[.int .i64 x.k, .int .i64 x.fr, .int .i64 x.mo, .slice xa x.b.length xc] 32 ∧ Own W3 W1.heap.size (.slice a1 x.b.length c1) x.b ∧ (∀ k, MF b vm' k → MF b vm k ∨ W2.heap.size ≤ k) ∧ (∀ k, u1.ownBlock = some k → W2.heap.size ≤ k) ∧ W2.heap.size ≤ W3.heap.size from
          ⟨hd1.mcall h2 h3 (fun p hp => by
            rcases List.mem_append.1 hp with hp | hp
            · exact .inl hp
            · simp at hp; subst hp; exact .inr ⟨h4.base (Nat.le_trans H2.out.1.gr.size (Nat.le_refl _)), HX.out.2.1⟩),
           hd1.mbox (H2.out.2.1.kept (grown_drewN W2 m1 none) (by simp)) h3, own_keeps (own_grown H2.out.2.2.1 (grown_drewN W2 m1 none)) h3.keeps (fun k e => el_ne hd1.m (own_grown H2.out.2.2.1 (grown_drewN W2 m1 none)) e), h3.new, fun k e => (owns_lt h4 e).1, h3.keeps.size⟩)
        clear hd1 h2 h3 h4
        refine ⟨_, rfl, at0 W3 (fun W => Blk W q0 #[.int .i64 x.k, .int .i64 x.fr, .int .i64 x.mo, .slice xa x.b.length xc] 32), ⟨0, rfl⟩, shut_at0 (fun m => H3.out.2.1.kept (grown_drewN _ m none) (by simp)), fun _ h => h, ?_⟩
        go_simp
        repeat (refine mix_rd1 rfl rfl (fun K hK => ?_); apply Exists.intro; refine ⟨fun W hW => ?_, ?_⟩; (obtain ⟨d0, d1, d2, d3, df⟩ := blk4 hW; go_simp; rfl); (go_simp; refine hK _ _ ?_; clear hK K))
        refine mix_call rfl rfl 11 #[.pointer (some ⟨bd, 0, none⟩), .slice xa x.b.length xc] (fun W0 => by go_simp) ?_
        rintro W0 ⟨m2, rfl⟩
        have hd2 := H3.out.1.grown (grown_drewN W3 m2 none)
        have hp2 := dput_any hd2.d hd2.gr.size x.b _ (HBY.out.kept hd2.gr) HX.out.2.1 (by rw [HLS.out]; exact hfit)
        rw [HLS.out] at hp2
        refine hp2.mono ?_
        clear hp2
        rintro e W4 ⟨rfl, vl', u2, h2, h3, h4⟩
        have H4 := hid_mk (show MdI w W4 b vm' bd vl' (R ++ [(x.b, u1)]) (Rd ++ [(x.b, u2)]) s s ∧ Blk W4 q0 #[.int .i64 x.k, .int .i64 x.fr, .int .i64 x.mo, .slice xa x.b.length xc] 32 ∧ RawB W4 W1.heap.size (.slice a1 x.b.length c1) x.b.length ∧ (∀ k, FP b vm' bd vl' (R ++ [(x.b, u1)]) (Rd ++ [(x.b, u2)]) k → k < W1.heap.size ∨ W2.heap.size ≤ k) ∧ (∀ k, (Value.slice a1 x.b.length c1).ownBlock = some k → k < W2.heap.size) from
          ⟨hd2.dcall h2 h3, hd2.dbox (H3.out.2.1.kept (grown_drewN W3 m2 none) (by simp)) h3, RawB.of (own_keeps (own_grown H3.out.2.2.1 (grown_drewN W3 m2 none)) h3.keeps (fun k e => eld_ne hd2.d (own_grown H3.out.2.2.1 (grown_drewN W3 m2 none)) e)), fun k hk => (fp_put H3.out.2.2.2.1 (fun k e => (h3.new k e).imp_right (fun h9 => Nat.le_trans H3.out.2.2.2.2.2 h9)) H3.out.2.2.2.2.1 (fun k e => Nat.le_trans H3.out.2.2.2.2.2 (owns_lt h4 e).1) k hk).imp_left (H2.out.2.2.2.2.1 k), fun k e => (owns_lt H2.out.2.2.1 e).2⟩)
        clear hd2 h2 h3 h4
        refine ⟨_, rfl, at0 W4 (fun W => Blk W q0 #[.int .i64 x.k, .int .i64 x.fr, .int .i64 x.mo, .slice xa x.b.length xc] 32), ⟨0, rfl⟩, shut_at0 (fun m => H4.out.2.1.kept (grown_drewN _ m none) (by simp)), fun _ h => h, ?_⟩
        go_simp
        repeat (refine mix_rd1 rfl rfl (fun K hK => ?_); apply Exists.intro; refine ⟨fun W hW => ?_, ?_⟩; (obtain ⟨d0, d1, d2, d3, df⟩ := blk4 hW; go_simp; rfl); (go_simp; refine hK _ _ ?_; clear hK K))
        refine mix_nil ?_
        rintro Wz ⟨mz, rfl⟩
        have HI := hid_mk (show MdI w (W4.drewN mz) b vm' bd vl' (R ++ [(x.b, u1)]) (Rd ++ [(x.b, u2)]) s s ∧ RawB (W4.drewN mz) W1.heap.size (.slice a1 x.b.length c1) x.b.length from ⟨H4.out.1.grown (grown_drewN W4 mz none), H4.out.2.2.1.kept (grown_drewN W4 mz none)⟩)
        have HN := hid_mk (show (∀ g, (Value.slice a1 x.b.length c1).ownBlock = some g → W1.heap.size ≤ g → ¬ FP b vm' bd vl' (R ++ [(x.b, u1)]) (Rd ++ [(x.b, u2)]) g ∧ w.heap.size ≤ g) ∧ s + R.length ≤ i ∧ R.map (·.1) = Rd.map (·.1) from ⟨fun g e h0 => ⟨fun hk => by
          have h7 := H4.out.2.2.2.2 g e
          rcases H4.out.2.2.2.1 g hk with h8 | h8 <;> omega, Nat.le_trans H2.out.2.2.2.1 h0⟩, H2.out.2.2.2.2.2⟩)
        clear H2 H3 H4 hfit HB
        have hxb := HX.out.2.1
        generalize (W4.drewN mz) = W5 at *
        generalize W1.heap.size = B0 at *
        go_wp2_with fail
        go_loopg [9] x.b.length (fun gg iv W => ∃ k : Nat, k ≤ x.b.length ∧ gg = x.b.length - k ∧ iv = .int .i64 k ∧ Hid (MdI w W b vm' bd vl' (R ++ [(x.b, u1)]) (Rd ++ [(x.b, u2)]) s s ∧ RawB W B0 (.slice a1 x.b.length c1) x.b.length))
        case atStart => exact ⟨0, Nat.zero_le _, rfl, rfl, HI⟩
        case round =>
          clear HI
          obtain ⟨k, hk, hgk, rfl, HI⟩ := hrel
          rename World => W
          by_cases hkl : k < x.b.length
          · have hkl' : (k : Int) < x.b.length := by omega
            obtain ⟨g, cap, cur, z, hv9, hb9, hh9, hc9, hf9⟩ := HI.out.2.at hkl
            injection hv9 with e1 e2 e3
            have hn9 := HN.out.1 g (by rw [e1]; rfl) hb9
            subst e1
            have HJ := hid_mk (show ∀ z : Int, MdI w (W.setCell ⟨g, k, none⟩ (.int .u8 z)) b vm' bd vl' (R ++ [(x.b, u1)]) (Rd ++ [(x.b, u2)]) s s ∧ RawB (W.setCell ⟨g, k, none⟩ (.int .u8 z)) B0 (.slice (some ⟨g, 0, none⟩) x.b.length c1) x.b.length from fun z => ⟨HI.out.1.set hn9.1 hn9.2 k _, HI.out.2.set hh9 k z⟩)
            clear e2 e3 hb9 hh9 hn9 HI
            go_wp2_with fail
            go_roundg (x.b.length - (k + 1))
            case measure => omega
            case rel => exact ⟨k + 1, by omega, rfl, by go_num, hid_mk (HJ.out _)⟩
          · obtain rfl : k = x.b.length := by omega
            go_wp2_with fail
            have HT := hid_mk (show MdI w W b vm' bd vl' (R ++ [(x.b, u1)]) (Rd ++ [(x.b, u2)]) s s ∧ (R ++ [(x.b, u1)]).map (·.1) = (Rd ++ [(x.b, u2)]).map (·.1) ∧ s + (R ++ [(x.b, u1)]).length ≤ i + 1 from ⟨HI.out.1, by rw [List.map_append, List.map_append, HN.out.2.2]; rfl, by rw [List.length_append]; have := HN.out.2.1; simp; omega⟩)
            clear HI HN HLS
            generalize (R ++ [(x.b, u1)]) = R' at *
            generalize (Rd ++ [(x.b, u2)]) = Rd' at *
            have HLn := hid_mk (show s + (Rd').length = s + (R').length from by have h9 := congrArg List.length HT.out.2.1; simp only [List.length_map] at h9; omega)
            refine wp_region_mix [(0, true), (1, true), (2, true), (3, true), (4, true), (5, true), (6, true), (7, true), (8, true), (9, true), (10, true), (11, true), (12, true), (13, true), (14, true), (15, true), (16, true), (17, true)] (at0 W (fun W => MdI w W b (vm') bd (vl') (R') (Rd') (s) (s))) (by kernel_rfl) (by kernel_rfl) rfl (by kernel_rfl) (shut_at0 (fun m => HT.out.1.grown (grown_drewN _ m none))) ⟨1, rfl⟩ ?_
            have HCT := hid_mk (fun (W : World) (hW : MdI w W b (vm') bd (vl') (R') (Rd') (s) (s)) => hW.d.cells)
            repeat (refine mix_rd1 rfl rfl (fun K hK => ?_); apply Exists.intro; refine ⟨fun W hW => ?_, ?_⟩; (obtain ⟨x0, x1, xf⟩ := HCT.out W hW; go_simp; rfl); (go_simp; refine hK _ _ ?_; clear hK K))
            refine mix_rdcall rfl rfl 17 #[.pointer (some ⟨b, 0, none⟩)] (.int .i64 ((s : Nat) : Int)) (fun W => by go_simp) (fun W hW => (start_any hW.m).mono (fun _ _ h => rd0 h)) ?_
            go_simp
            repeat (refine mix_rd1 rfl rfl (fun K hK => ?_); apply Exists.intro; refine ⟨fun W hW => ?_, ?_⟩; (obtain ⟨x0, x1, xf⟩ := HCT.out W hW; go_simp; rfl); (go_simp; refine hK _ _ ?_; clear hK K))
            refine mix_rdcall rfl rfl 18 #[.pointer (some ⟨b, 0, none⟩)] (.int .i64 (((s + (R').length : Nat)) : Int)) (fun W => by go_simp) (fun W hW => next_any hW.m) ?_
            go_simp
            repeat (refine mix_rd1 rfl rfl (fun K hK => ?_); apply Exists.intro; refine ⟨fun W hW => ?_, ?_⟩; (obtain ⟨x0, x1, xf⟩ := HCT.out W hW; go_simp; rfl); (go_simp; refine hK _ _ ?_; clear hK K))
            refine mix_rdcall rfl rfl 19 #[.pointer (some ⟨bd, 0, none⟩)] (.int .i64 (((s + (R').length : Nat)) : Int)) (fun W => by go_simp) (fun W hW => by have h9 := dnext_any hW.d; rwa [HLn.out] at h9) ?_
            go_simp
            repeat (refine mix_rd1 rfl rfl (fun K hK => ?_); apply Exists.intro; refine ⟨fun W hW => ?_, ?_⟩; (obtain ⟨x0, x1, xf⟩ := HCT.out W hW; go_simp; rfl); (go_simp; refine hK _ _ ?_; clear hK K))
            refine mix_nil ?_
            rintro Wz ⟨mz, rfl⟩
            clear HCT
            go_wp2_with fail
            go_roundg (L.length - (i + 1))
            case measure => omega
            case rel => exact ⟨i + 1, vm', vl', R', Rd', s, by omega, rfl, by go_num, hid_mk ⟨HT.out.1.grown (grown_drewN _ mz none), HT.out.2.1, HT.out.2.2⟩⟩
      · by_cases hk1 : x.k = 1
        ·
          rw [hk1] at p0
          go_upto_region 29 with fail
          clear p0 p1 p2 p3 pf
          have HK1 := hid_mk hk1
          clear hk0 hk1
          refine wp_region_mix [(0, true), (1, true), (2, true), (4, true), (5, true), (6, true), (3, false), (7, false), (8, true), (9, true)] (at0 W1 (fun W => Blk W q0 #[.int .i64 x.k, .int .i64 x.fr, .int .i64 x.mo, .slice xa x.b.length xc] 32)) (by kernel_rfl) (by kernel_rfl) rfl (by kernel_rfl) (shut_at0 (fun m => HB.out.2.1.kept (grown_drewN _ m none) (by simp))) ⟨1, rfl⟩ ?_
          repeat (refine mix_rd1 rfl rfl (fun K hK => ?_); apply Exists.intro; refine ⟨fun W hW => ?_, ?_⟩; (obtain ⟨d0, d1, d2, d3, df⟩ := blk4 hW; go_simp; rfl); (go_simp; refine hK _ _ ?_; clear hK K))
          refine mix_call rfl rfl 12 #[.pointer (some ⟨b, 0, none⟩), .int .i64 x.fr] (fun W0 => by go_simp) ?_
          rintro W0 ⟨m1, rfl⟩
          have hd1 := HB.out.1.grown (grown_drewN W1 m1 none)
          refine (trim_any hd1.m x.fr).mono ?_
          rintro e W3 ⟨rfl, vm', h2, h3⟩
          have H3 := hid_mk (show MdI w W3 b vm' bd vl (R.drop (goneM ⟨s, R.map (·.1)⟩ x.fr)) Rd (s + goneM ⟨s, R.map (·.1)⟩ x.fr) s ∧ Blk W3 q0 #[.int .i64 x.k, .int .i64 x.fr, .int .i64 x.mo, .slice xa x.b.length xc] 32 from ⟨hd1.mcall h2 h3 (fun p hp => .inl (List.mem_of_mem_drop hp)), hd1.mbox (HB.out.2.1.kept (grown_drewN W1 m1 none) (by simp)) h3⟩)
          clear h2 h3 hd1
          refine ⟨_, rfl, at0 W3 (fun W => Blk W q0 #[.int .i64 x.k, .int .i64 x.fr, .int .i64 x.mo, .slice xa x.b.length xc] 32), ⟨0, rfl⟩, shut_at0 (fun m => H3.out.2.kept (grown_drewN _ m none) (by simp)), fun _ h => h, ?_⟩
          go_simp
          refine mix_call rfl rfl 13 #[.pointer (some ⟨bd, 0, none⟩), .int .i64 x.fr] (fun W0 => by go_simp) ?_
          rintro W0 ⟨m2, rfl⟩
          have hd3 := (H3.out.1.grown (grown_drewN W3 m2 none))
          refine (dtrim_any hd3.d hd3.gr.size x.fr).mono ?_
          rintro e W4 ⟨rfl, vl', h2, h3⟩
          have hgg : goneM ⟨s, Rd.map (·.1)⟩ x.fr = goneM ⟨s, R.map (·.1)⟩ x.fr := by rw [HB.out.2.2.1]
          rw [hgg] at h2 ⊢
          have HT := hid_mk (show MdI w W4 b vm' bd vl' (R.drop (goneM ⟨s, R.map (·.1)⟩ x.fr)) (Rd.drop (goneM ⟨s, R.map (·.1)⟩ x.fr)) (s + goneM ⟨s, R.map (·.1)⟩ x.fr) (s + goneM ⟨s, R.map (·.1)⟩ x.fr) ∧ (R.drop (goneM ⟨s, R.map (·.1)⟩ x.fr)).map (·.1) = (Rd.drop (goneM ⟨s, R.map (·.1)⟩ x.fr)).map (·.1) ∧ s + goneM ⟨s, R.map (·.1)⟩ x.fr + (R.drop (goneM ⟨s, R.map (·.1)⟩ x.fr)).length ≤ i + 1 from ⟨hd3.dcall h2 h3, by rw [List.map_drop, List.map_drop, HB.out.2.2.1], by
            have h8 : goneM ⟨s, R.map (·.1)⟩ x.fr ≤ R.length := by
              have h7 : goneM ⟨s, R.map (·.1)⟩ x.fr ≤ (R.map (·.1)).length := Nat.min_le_right _ _
              simpa using h7
            have := HB.out.2.2.2
            rw [List.length_drop]; omega⟩)
          have HX4 := hid_mk (hd3.dbox (H3.out.2.kept (grown_drewN W3 m2 none) (by simp)) h3)
          clear h2 h3 hd3 hgg H3 HB
          generalize goneM ⟨s, R.map (·.1)⟩ x.fr = gn at *
          refine ⟨_, rfl, at0 W4 (fun W => Blk W q0 #[.int .i64 x.k, .int .i64 x.fr, .int .i64 x.mo, .slice xa x.b.length xc] 32), ⟨0, rfl⟩, shut_at0 (fun m => HX4.out.kept (grown_drewN _ m none) (by simp)), fun _ h => h, ?_⟩
          go_simp
          repeat (refine mix_rd1 rfl rfl (fun K hK => ?_); apply Exists.intro; refine ⟨fun W hW => ?_, ?_⟩; (obtain ⟨d0, d1, d2, d3, df⟩ := blk4 hW; go_simp; rfl); (go_simp; refine hK _ _ ?_; clear hK K))
          refine mix_nil ?_
          rintro Wz ⟨mz, rfl⟩
          have HT' := hid_mk (And.intro (HT.out.1.grown (grown_drewN W4 mz none)) HT.out.2)
          clear HT HX4 HLS
          have HT := HT'
          clear HT'
          generalize (R.drop gn) = R' at *
          generalize (Rd.drop gn) = Rd' at *
          generalize s + gn = s' at *
          generalize (W4.drewN mz) = W5 at *
          go_wp2_with fail
          have HLn := hid_mk (show s' + (Rd').length = s' + (R').length from by have h9 := congrArg List.length HT.out.2.1; simp only [List.length_map] at h9; omega)
          refine wp_region_mix [(0, true), (1, true), (2, true), (3, true), (4, true), (5, true), (6, true), (7, true), (8, true), (9, true), (10, true), (11, true), (12, true), (13, true), (14, true), (15, true), (16, true), (17, true)] (at0 W5 (fun W => MdI w W b (vm') bd (vl') (R') (Rd') (s') (s'))) (by kernel_rfl) (by kernel_rfl) rfl (by kernel_rfl) (shut_at0 (fun m => HT.out.1.grown (grown_drewN _ m none))) ⟨1, rfl⟩ ?_
          have HCT := hid_mk (fun (W : World) (hW : MdI w W b (vm') bd (vl') (R') (Rd') (s') (s')) => hW.d.cells)
          repeat (refine mix_rd1 rfl rfl (fun K hK => ?_); apply Exists.intro; refine ⟨fun W hW => ?_, ?_⟩; (obtain ⟨x0, x1, xf⟩ := HCT.out W hW; go_simp; rfl); (go_simp; refine hK _ _ ?_; clear hK K))
          refine mix_rdcall rfl rfl 17 #[.pointer (some ⟨b, 0, none⟩)] (.int .i64 ((s' : Nat) : Int)) (fun W => by go_simp) (fun W hW => (start_any hW.m).mono (fun _ _ h => rd0 h)) ?_
          go_simp
          repeat (refine mix_rd1 rfl rfl (fun K hK => ?_); apply Exists.intro; refine ⟨fun W hW => ?_, ?_⟩; (obtain ⟨x0, x1, xf⟩ := HCT.out W hW; go_simp; rfl); (go_simp; refine hK _ _ ?_; clear hK K))
          refine mix_rdcall rfl rfl 18 #[.pointer (some ⟨b, 0, none⟩)] (.int .i64 (((s' + (R').length : Nat)) : Int)) (fun W => by go_simp) (fun W hW => next_any hW.m) ?_
          go_simp
          repeat (refine mix_rd1 rfl rfl (fun K hK => ?_); apply Exists.intro; refine ⟨fun W hW => ?_, ?_⟩; (obtain ⟨x0, x1, xf⟩ := HCT.out W hW; go_simp; rfl); (go_simp; refine hK _ _ ?_; clear hK K))
          refine mix_rdcall rfl rfl 19 #[.pointer (some ⟨bd, 0, none⟩)] (.int .i64 (((s' + (R').length : Nat)) : Int)) (fun W => by go_simp) (fun W hW => by have h9 := dnext_any hW.d; rwa [HLn.out] at h9) ?_
          go_simp
          repeat (refine mix_rd1 rfl rfl (fun K hK => ?_); apply Exists.intro; refine ⟨fun W hW => ?_, ?_⟩; (obtain ⟨x0, x1, xf⟩ := HCT.out W hW; go_simp; rfl); (go_simp; refine hK _ _ ?_; clear hK K))
          refine mix_nil ?_
          rintro Wz ⟨mz, rfl⟩
          clear HCT
          go_wp2_with fail
          go_roundg (L.length - (i + 1))
          case measure => omega
          case rel => exact ⟨i + 1, vm', vl', R', Rd', s', by omega, rfl, by go_num, hid_mk ⟨HT.out.1.grown (grown_drewN _ mz none), HT.out.2.1, HT.out.2.2⟩⟩
        ·
          have HK := hid_mk (And.intro hk0 hk1)
          go_wp2_with fail
          refine (get_all HB.out.1.m (fun p hp => (HB.out.1.el p hp).1.byt) (fun p hp => (HB.out.1.el p hp).2) x.fr x.mo).mono ?_
          rintro e W2 ⟨v2, R1, rfl, ho1, hb1, hg1⟩
          have H2 := hid_mk (show MdI w W2 b vm bd vl R Rd s s ∧ Blk W2 q0 #[.int .i64 x.k, .int .i64 x.fr, .int .i64 x.mo, .slice xa x.b.length xc] 32 ∧ OwnRec W2 W1.heap.size v2 R1 ∧ R1.map (·.1) = gotL (R.map (·.1)) s x.fr x.mo from ⟨HB.out.1.grown hg1, HB.out.2.1.kept hg1 (by simp), ho1, hb1⟩)
          obtain ⟨a1, c1, rfl⟩ := ho1.len
          clear hg1 hb1 ho1 p0 p1 p2 p3 pf
          obtain ⟨p0, p1, p2, p3, pf⟩ := blk4 H2.out.2.1
          go_wp2_with fail
          have hq2 := dget_all H2.out.1.d H2.out.1.gr.size x.fr x.mo
          rw [← HB.out.2.2.1] at hq2
          refine hq2.mono ?_
          clear hq2
          rintro e W3 ⟨v3, R2, rfl, ho2, hb2, hg2⟩
          have H3 := hid_mk (show MdI w W3 b vm bd vl R Rd s s ∧ OwnRec W3 W1.heap.size (.slice a1 R1.length c1) R1 ∧ R1.map (·.1) = R2.map (·.1) ∧ RecR W3 v3 R2 ∧ R1.length ≤ 5864062014805 ∧ R2.length ≤ 5864062014805 from by
            have l1 := congrArg List.length H2.out.2.2.2
            have l2 := congrArg List.length hb2
            have l3 := got_len (R.map (·.1)) s x.fr x.mo
            have l4 := HB.out.2.2.2
            rw [List.length_map] at l1 l2 l3
            exact ⟨H2.out.1.grown hg2, H2.out.2.2.1.kept hg2, by rw [H2.out.2.2.2, hb2], ho2, by omega, by omega⟩)
          have HN2 := hid_mk (show ∀ p ∈ R1, p.1.length ≤ 140737488355328 from fun p hp => by
            have h9 : p.1 ∈ R1.map (·.1) := List.mem_map.2 ⟨p, hp, rfl⟩
            rw [H2.out.2.2.2] at h9
            obtain ⟨p', hp', e⟩ := List.mem_map.1 (got_mem h9)
            rw [← e]; exact (HB.out.1.el p' hp').2)
          obtain ⟨a2, c2, rfl⟩ := ho2.len
          clear hg2 hb2 ho2 p0 p1 p2 p3 pf H2
          generalize hasM ⟨s, R.map (·.1)⟩ x.fr = is at *
          go_wp2_with fail
          refine (lists_any H3.out.2.1.red H3.out.2.2.2.1 H3.out.2.2.2.2.1 H3.out.2.2.2.2.2).mono ?_
          rintro e W4 ⟨rfl, hg3⟩
          rw [decide_eq_true H3.out.2.2.1]
          have HI := hid_mk (show MdI w W4 b vm bd vl R Rd s s ∧ XI W4 W1.heap.size (.slice a1 R1.length c1) R1 from ⟨H3.out.1.grown hg3, XI.of (H3.out.2.1.kept hg3)⟩)
          have HN := hid_mk (show (∀ g, W1.heap.size ≤ g → ¬ FP b vm bd vl R Rd g ∧ w.heap.size ≤ g) ∧ s + R.length ≤ i ∧ R.map (·.1) = Rd.map (·.1) from ⟨fun g h0 => ⟨fun hk => by have := HB.out.1.lt hk; omega, Nat.le_trans HB.out.1.gr.size h0⟩, HB.out.2.2.2, HB.out.2.2.1⟩)
          have hR1 := H3.out.2.2.2.2.1
          clear hg3 H3 HB HLS hk0 hk1
          generalize W1.heap.size = B0 at *
          go_wp2_with fail
          go_loopg [14] R1.length (fun gg iv W => ∃ k : Nat, k ≤ R1.length ∧ gg = R1.length - k ∧ iv = .int .i64 k ∧ Hid (MdI w W b vm bd vl R Rd s s ∧ XI W B0 (.slice a1 R1.length c1) R1))
          case atStart => exact ⟨0, Nat.zero_le _, rfl, rfl, HI⟩
          case round =>
            clear HI
            obtain ⟨k, hk, hgk, rfl, HI⟩ := hrel
            rename World => W
            by_cases hkl : k < R1.length
            · have hkl' : (k : Int) < R1.length := by omega
              obtain ⟨g, cap, hv9, _⟩ := HI.out.2.get hkl
              injection hv9 with e1 e2 e3
              subst e1
              have HEL := hid_mk (show ∀ W : World, XI W B0 (.slice (some ⟨g, 0, none⟩) R1.length c1) R1 → RawB W B0 R1[k].2 R1[k].1.length from fun W h => h.el _ (List.getElem_mem hkl))
              obtain ⟨ea, ec, hes⟩ := (HEL.out W HI.out.2).len
              have HXG := hid_mk (show ∀ W : World, XI W B0 (.slice (some ⟨g, 0, none⟩) R1.length c1) R1 → W.cell? ⟨g, k, none⟩ = some (.slice ea R1[k].1.length ec) from fun W h => by
                obtain ⟨g', cap', hv', hc'⟩ := h.get hkl
                injection hv' with e4 e5 e6
                injection e4 with e4
                injection e4 with e4
                subst e4
                rw [hc', hes])
              rw [hes] at HEL
              have hce := HXG.out W HI.out.2
              have hn2 := HN2.out _ (List.getElem_mem hkl)
              clear e2 e3 hes
              generalize R1[k].1.length = n2 at *
              go_wp2_with fail
              clear hce
              go_loopg [15] n2 (fun gg iv W => ∃ q : Nat, q ≤ n2 ∧ gg = n2 - q ∧ iv = .int .i64 q ∧ Hid (MdI w W b vm bd vl R Rd s s ∧ XI W B0 (.slice (some ⟨g, 0, none⟩) R1.length c1) R1))
              case atStart => exact ⟨0, Nat.zero_le _, rfl, rfl, HI⟩
              case round =>
                clear HI
                obtain ⟨q, hq, hgq, rfl, HI⟩ := hrel
                rename World => W
                have hce := HXG.out W HI.out.2
                by_cases hql : q < n2
                · have hql' : (q : Int) < n2 := by omega
                  obtain ⟨g2, cap2, cur, z, hv8, hb8, hh8, hc8, hf8⟩ := (HEL.out W HI.out.2).at hql
                  injection hv8 with e1 e2 e3
                  subst e1
                  have hn8 := HN.out.1 g2 hb8
                  have HJ := hid_mk (show MdI w (W.setCell ⟨g2, q, none⟩ (.int .u8 0)) b vm bd vl R Rd s s ∧ XI (W.setCell ⟨g2, q, none⟩ (.int .u8 0)) B0 (.slice (some ⟨g, 0, none⟩) R1.length c1) R1 from ⟨HI.out.1.set hn8.1 hn8.2 q _, HI.out.2.set hh8 q 0⟩)
                  clear e2 e3 hb8 hh8 hn8 HI
                  go_wp2_with fail
                  go_roundg (n2 - (q + 1))
                  case measure => omega
                  case rel => exact ⟨q + 1, by omega, rfl, by go_num, HJ⟩
                · go_wp2_with fail
                  go_roundg (R1.length - (k + 1))
                  case measure => omega
                  case rel => exact ⟨k + 1, by omega, rfl, by go_num, HI⟩
            · obtain rfl : k = R1.length := by omega
              go_wp2_with fail
              have HT := hid_mk (show MdI w W b vm bd vl R Rd s s ∧ R.map (·.1) = Rd.map (·.1) ∧ s + R.length ≤ i + 1 from ⟨HI.out.1, HN.out.2.2, by have := HN.out.2.1; omega⟩)
              clear HI HN
              have HLn := hid_mk (show s + (Rd).length = s + (R).length from by have h9 := congrArg List.length HT.out.2.1; simp only [List.length_map] at h9; omega)
              refine wp_region_mix [(0, true), (1, true), (2, true), (3, true), (4, true), (5, true), (6, true), (7, true), (8, true), (9, true), (10, true), (11, true), (12, true), (13, true), (14, true), (15, true), (16, true), (17, true)] (at0 W (fun W => MdI w W b (vm) bd (vl) (R) (Rd) (s) (s))) (by kernel_rfl) (by kernel_rfl) rfl (by kernel_rfl) (shut_at0 (fun m => HT.out.1.grown (grown_drewN _ m none))) ⟨1, rfl⟩ ?_
              have HCT := hid_mk (fun (W : World) (hW : MdI w W b (vm) bd (vl) (R) (Rd) (s) (s)) => hW.d.cells)
              repeat (refine mix_rd1 rfl rfl (fun K hK => ?_); apply Exists.intro; refine ⟨fun W hW => ?_, ?_⟩; (obtain ⟨x0, x1, xf⟩ := HCT.out W hW; go_simp; rfl); (go_simp; refine hK _ _ ?_; clear hK K))
              refine mix_rdcall rfl rfl 17 #[.pointer (some ⟨b, 0, none⟩)] (.int .i64 ((s : Nat) : Int)) (fun W => by go_simp) (fun W hW => (start_any hW.m).mono (fun _ _ h => rd0 h)) ?_
              go_simp
              repeat (refine mix_rd1 rfl rfl (fun K hK => ?_); apply Exists.intro; refine ⟨fun W hW => ?_, ?_⟩; (obtain ⟨x0, x1, xf⟩ := HCT.out W hW; go_simp; rfl); (go_simp; refine hK _ _ ?_; clear hK K))
              refine mix_rdcall rfl rfl 18 #[.pointer (some ⟨b, 0, none⟩)] (.int .i64 (((s + (R).length : Nat)) : Int)) (fun W => by go_simp) (fun W hW => next_any hW.m) ?_
              go_simp
              repeat (refine mix_rd1 rfl rfl (fun K hK => ?_); apply Exists.intro; refine ⟨fun W hW => ?_, ?_⟩; (obtain ⟨x0, x1, xf⟩ := HCT.out W hW; go_simp; rfl); (go_simp; refine hK _ _ ?_; clear hK K))
              refine mix_rdcall rfl rfl 19 #[.pointer (some ⟨bd, 0, none⟩)] (.int .i64 (((s + (R).length : Nat)) : Int)) (fun W => by go_simp) (fun W hW => by have h9 := dnext_any hW.d; rwa [HLn.out] at h9) ?_
              go_simp
              repeat (refine mix_rd1 rfl rfl (fun K hK => ?_); apply Exists.intro; refine ⟨fun W hW => ?_, ?_⟩; (obtain ⟨x0, x1, xf⟩ := HCT.out W hW; go_simp; rfl); (go_simp; refine hK _ _ ?_; clear hK K))
              refine mix_nil ?_
              rintro Wz ⟨mz, rfl⟩
              clear HCT
              go_wp2_with fail
              go_roundg (L.length - (i + 1))
              case measure => omega
              case rel => exact ⟨i + 1, vm, vl, R, Rd, s, by omega, rfl, by go_num, hid_mk ⟨HT.out.1.grown (grown_drewN _ mz none), HT.out.2.1, HT.out.2.2⟩⟩
    ·
      have HG := hid_mk H.out.1.gr
      clear H HBW HL HV
      go_wp2_with (first | (go_at_call 14; refine (get_none _ _ _).mono ?_; rintro e w' ⟨rfl, hw⟩; rw [hw]; clear hw) | (go_at_call 10; refine (put_no _ _).mono ?_; rintro e w' ⟨rfl, hw⟩; rw [hw]; clear hw) | (go_at_call 12; refine (trim_no _ _).mono ?_; rintro e w' ⟨rfl, hw⟩; rw [hw]; clear hw) | (go_at_call 17; refine (start_no _).mono ?_; rintro e w' ⟨rfl, hw⟩; rw [hw]; clear hw) | (go_at_call 18; refine (next_no _).mono ?_; rintro e w' ⟨rfl, hw⟩; rw [hw]; clear hw))
      go_ret
      exact ⟨rfl, grown_trans HG.out (World.grownBy_alloc _ _ none)⟩
end Go.Proofs.Ythbfjpaimnhpgaa
