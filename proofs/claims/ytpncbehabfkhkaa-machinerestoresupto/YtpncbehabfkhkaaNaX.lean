/- MachineAlike: the walk. -/
import Derived.Test.YtpncbehabfkhkaaNaY
import Derived.Deep.DeepCutAuto
namespace Go.Proofs.Ytpncbehabfkhkaa.W
open Go.RowKit Go.Maps Go.WideMaps Go.WideElems
set_option linter.unusedVariables false
set_option linter.unusedSimpArgs false
set_option maxRecDepth 100000

set_option maxHeartbeats 8000000 in
theorem machineAlike_walk (va : Option Addr) (vc : Nat) (os : List OpG) (k : Int) (w : World) (ho : OpsR w (.slice va os.length vc) os) (hL : os.length ≤ 1048576) (hB : ∀ x ∈ os, x.l.length ≤ 1048576) :
    Calls Try.prog 8 #[.slice va os.length vc, .int .i64 k] w fun e w' => e = .returned (.bool true) ∧ w.grownBy w' none := by
  have HO := hid_mk (And.intro ho hB)
  clear ho hB
  go_enter Try.func8, Try.ntmps8
  go_wp2_with fail
  refine (new_ok 9 w (by omega) (by omega)).mono ?_
  rintro e w1 ⟨ba, bm1, rfl, hM1, hg1⟩
  have H1 := hid_mk (MS.new hM1 hg1)
  clear hM1 hg1
  go_wp2_with fail
  refine (new_ok 9 w1 (by omega) (by omega)).mono ?_
  rintro e w2 ⟨bb, bm2, rfl, hM2, hg2⟩
  have H2 := hid_mk (show AL w w2 ba bb (fun k => w.heap.size ≤ k ∧ k < w1.heap.size) (fun k => w1.heap.size ≤ k ∧ k < w2.heap.size) (newM 9 bm1) (newM 9 bm2) 0 from
    ⟨H1.out.kept hg2, ⟨hM2.bound, fun k hk => Nat.le_trans H1.out.gr.size hk.1, fun k hk => hk.2, grown_trans H1.out.gr hg2⟩, fun k hz hh => by have := hz.2; have := hh.1; omega, rfl, Wf.new 9, Nat.le_refl _, rfl⟩)
  clear hM2 hg2 H1
  go_wp2_with (first
    | (go_at_call 16; refine (num_any _ _).mono ?_; rintro e w' ⟨rfl, hw⟩; rw [hw]; clear hw)
    | (go_at_call 18; refine (knows_any _).mono ?_; rintro e w3 ⟨rfl, hg⟩; have H3 := hid_mk (H2.out.kept hg); clear hg))
  clear H2
  go_loopg [7, 9] os.length (fun g bv iv W => ∃ (i bb : Nat) (Za Zb : Nat → Prop) (ma mb : Mach), i ≤ os.length ∧ g = os.length - i ∧ bv = .pointer (some ⟨bb, 0, none⟩) ∧ iv = .int .i64 i ∧ Hid (AL w W ba bb Za Zb ma mb i))
  case atStart => exact ⟨0, bb, _, _, _, _, Nat.zero_le _, rfl, rfl, rfl, H3⟩
  case round =>
    obtain ⟨i, bb, Za, Zb, ma, mb, hi, hgi, rfl, rfl, HA⟩ := hrel
    rename World => W
    clear H3
    by_cases hlt : i < os.length
    · have hlt' : (i : Int) < (os.length : Int) := by omega
      obtain ⟨g, off, hix, c0, c1, _, _, hbx⟩ := HO.out.1.2 i os[i] (by simp [hlt])
      have hbl := HO.out.2 os[i] (List.getElem_mem hlt)
      generalize os[i] = x at *
      obtain ⟨ix, xv, l, fr, mo⟩ := x
      simp only at hbx hbl c0 c1
      obtain ⟨xa, xc, rfl⟩ := hbx.len
      have HC := hid_mk (And.intro c0 (And.intro c1 hbx))
      clear c0 c1 hbx
      have HAll : ∀ W0, w.grownBy W0 none → W0.cell? ⟨g, off, none⟩ = some (.int .i64 ix) ∧ W0.cell? ⟨g, off + 1, none⟩ = some (.slice xa l.length xc) := fun W0 hW => ⟨hW.cell HC.out.1 (by simp), hW.cell HC.out.2.1 (by simp)⟩
      have hiI : (i : Int) < (os.length : Int) := by omega
      have hiI0 : (0 : Int) ≤ (i : Int) := by omega
      have HG := hid_mk HA.out.a.gr
      have HEQ := hid_mk (show applyA ma.ab ix l = applyA mb.ab ix l by rw [HA.out.eq])
      obtain ⟨r, hr⟩ : ∃ r, r = (applyA mb.ab ix l).1.1 := ⟨_, rfl⟩
      obtain ⟨er, her⟩ : ∃ er, er = (applyA mb.ab ix l).1.2 := ⟨_, rfl⟩
      obtain ⟨re, rs0, rn⟩ := r
      have HRE := hid_mk (And.intro hr her)
      clear hr her
      have HCall := hid_mk (fun (W1 : World) (a5 : Option Addr) (c5 : Nat) (hg1 : W.grownBy W1 none) (ho : Own W1 W.heap.size (.slice a5 l.length c5) l) (mm : Nat) => show Calls Try.prog 26 #[.pointer (some ⟨ba, 0, none⟩), .int .i64 ix, .slice a5 l.length c5] (W1.drewN mm) fun e W' => e = .returned (.tuple #[.agg #[.int .i64 re, .int .i64 rs0, .int .i64 rn], .int .i64 er]) ∧ ((∃ Za' m', AM w W' ba bb Za' Zb m' mb i ix l) ∧ W.heap.size ≤ W'.heap.size) ∧ w.grownBy W' none ∧ ∀ q cs, Blk W1 q cs 52 → W.heap.size ≤ q → Blk W' q cs 52 by
        have hgm := grown_trans hg1 (grown_drewN W1 mm none)
        have hMC := MS.cmd HA.out.a (W := W1.drewN mm) (owns_kept ho (grown_drewN _ _ none) (fun _ _ _ => by simp)) hgm
        refine (hMC.apply ix (by omega) (by have := HA.out.small; omega) HA.out.small.2.2.1).mono ?_
        rintro e w7 ⟨m', rfl, hMS, hab, hK⟩
        refine ⟨by rw [HEQ.out, ← HRE.out.1, ← HRE.out.2]; rfl, ⟨⟨_, m', (HA.out.kept hgm).one hMS hab hK⟩, Nat.le_trans hgm.size hK.size⟩, hMS.gr, fun q cs hb hq => ?_⟩
        have hb' : Blk (W1.drewN mm) q cs 52 := hb
        exact hb'.keeps hK (fun hz => by have := HA.out.a.hi q hz; omega))
      have HKp := hid_mk (show ∀ (W1 W2 : World), ((∃ Za' m', AM w W1 ba bb Za' Zb m' mb i ix l) ∧ W.heap.size ≤ W1.heap.size) → W1.grownBy W2 none → (∃ Za' m', AM w W2 ba bb Za' Zb m' mb i ix l) ∧ W.heap.size ≤ W2.heap.size from fun W1 W2 h hg => by
        obtain ⟨⟨Z, m', h⟩, hs⟩ := h
        exact ⟨⟨Z, m', h.kept hg⟩, Nat.le_trans hs hg.size⟩)
      have HKs := hid_mk (show ∀ (W1 W2 : World) (q : Nat), ((∃ Za' m', AM w W1 ba bb Za' Zb m' mb i ix l) ∧ W.heap.size ≤ W1.heap.size) → W1.grownBy W2 (some q) → Blk W1 q #[.int .i64 0, .int .i64 0, .int .i64 0] 52 → W.heap.size ≤ q → (∃ Za' m', AM w W2 ba bb Za' Zb m' mb i ix l) ∧ W.heap.size ≤ W2.heap.size from fun W1 W2 q h hg hb hq => by
        obtain ⟨⟨Z, m', h⟩, hs⟩ := h
        exact ⟨⟨_, m', h.boxed hb hg (Nat.le_trans HG.out.size hq)⟩, Nat.le_trans hs hg.size⟩)
      go_upto_region 8 with fail
      go_cut [10, 11] (fun s10 s11 wx => ∃ q : Nat, s10 = .pointer (some ⟨q, 0, none⟩) ∧ s11 = .int .i64 er ∧ Hid ((∃ Za' m', AM w wx ba bb Za' Zb m' mb i ix l) ∧ Blk wx q #[.int .i64 re, .int .i64 rs0, .int .i64 rn] 52 ∧ W.heap.size ≤ q))
      case first =>
        refine wp_region_fork (X := fun _ _ _ => False) [(0, true), (1, true), (2, true), (3, true), (4, true), (5, true), (7, true), (8, true), (9, true), (10, true), (11, true)] 9 #[true, true, true, true, true, true, false, true, true, true, true, true, false, false, false, false, false, false, false, false] (cl w W) (by kernel_rfl) (by kernel_rfl) rfl (by kernel_rfl) (fun _ _ _ h => h.elim) (shut_at0 (fun mm => grown_trans HG.out (grown_drewN _ mm _))) ⟨1, rfl⟩ ?_
        repeat (refine mix_rd1X rfl rfl (fun K hK => ?_); apply Exists.intro; refine ⟨fun W0 hW => ?_, ?_⟩; (obtain ⟨f0, f1⟩ := HAll W0 hW; go_simp; rfl); (go_simp; refine hK _ _ ?_; clear hK K))
        refine mix_nilX ?_
        have HX0 := hid_mk (show XS W W none from ⟨grown_refl _ _, fun q e => by cases e⟩)
        refine fork2 6 17 (by kernel_rfl) ?_ ?_
        · refine xs_new HG.out HX0.out rfl rfl (fun W => by go_simp) ?_
          intro K hK gn Wn HXn
          go_simp
          refine hK _ _ ?_
          clear hK K
          refine fork2 12 17 (by kernel_rfl) ?_ ?_
          · refine xs_app HG.out HXn.out.1 gn HXn.out.2 l xa xc HC.out.2.2 (by omega) rfl rfl (.tmp 55) (.tmp 60) rfl rfl rfl ?_
            intro K hK a5 c5 Wa HXa
            go_simp
            refine hK _ _ ?_
            clear hK K
            refine fork2 13 17 (by kernel_rfl) ?_ ?_
            · refine xs_call (w := w) HXa.out.1 26 #[.pointer (some ⟨ba, 0, none⟩), .int .i64 ix, .slice a5 l.length c5] (.tuple #[.agg #[.int .i64 re, .int .i64 rs0, .int .i64 rn], .int .i64 er]) (fun W' => (∃ Za' m', AM w W' ba bb Za' Zb m' mb i ix l) ∧ W.heap.size ≤ W'.heap.size) rfl rfl (fun W => by go_simp) (fun mm => HCall.out _ a5 c5 (HXa.out.1.gr) HXa.out.2 mm) ?_
              intro K hK Wc HXc
              go_simp
              refine hK _ _ ?_
              clear hK K
              refine reads_first (by kernel_rfl) [(14, true), (15, true), (16, true)] 3 6 rfl _ #[true, true, true, true, true, true, true, true, true, true, true, true, true, true, true, true, true, false, false, false] (by kernel_rfl) ?_
              repeat (refine mix_rd1X rfl rfl (fun K hK => ?_); apply Exists.intro; refine ⟨fun W0 hW => ?_, ?_⟩; (go_simp; rfl); (go_simp; refine hK _ _ ?_; clear hK K))
              refine mix_nilX ?_
              refine fork1 17 (by kernel_rfl) ?_
              refine ys_box (w := w) (fun W' => (∃ Za' m', AM w W' ba bb Za' Zb m' mb i ix l) ∧ W.heap.size ≤ W'.heap.size) HXc.out.1 (fun W' hg' => HKp.out _ _ HXc.out.1 hg') HXc.out.2.1 rfl rfl (fun W => by go_simp) ?_
              intro K hK q Wb HXb
              go_simp
              refine hK _ _ ?_
              clear hK K
              have HY := hid_mk (show (fun W' => (∃ Za' m', AM w W' ba bb Za' Zb m' mb i ix l) ∧ W.heap.size ≤ W'.heap.size) Wb ∧ w.grownBy Wb none ∧ Blk Wb q #[.int .i64 0, .int .i64 0, .int .i64 0] 52 ∧ W.heap.size ≤ q from ⟨HXb.out.1, HXb.out.2.1, HXb.out.2.2.1, Nat.le_trans (And.right HXc.out.1) HXb.out.2.2.2⟩)
              refine fork1 18 (by kernel_rfl) ?_
              refine ys_store (w := w) q (.int .i64 re) (.int .i64 rs0) (.int .i64 rn) (fun W' => (∃ Za' m', AM w W' ba bb Za' Zb m' mb i ix l) ∧ W.heap.size ≤ W'.heap.size) (fun W' hg' => HKs.out _ _ _ HY.out.1 hg' (HY.out.2.2.1) (HY.out.2.2.2)) HY.out.2.2.1 HY.out.2.1 (Nat.le_trans HG.out.size HY.out.2.2.2) rfl rfl (fun W hb => by
                have e0 : W.cell? ⟨q, 0, none⟩ = some (.int .i64 0) := by rw [hb.cell]; rfl
                have e1 : W.cell? ⟨q, 1, none⟩ = some (.int .i64 0) := by rw [hb.cell]; rfl
                have e2 : W.cell? ⟨q, 2, none⟩ = some (.int .i64 0) := by rw [hb.cell]; rfl
                have ef := fun j => hb.frozen j
                first | (left; go_simp; done) | (right; apply Exists.intro; go_simp; rfl) | (right; apply Exists.intro; go_simp)) rfl ?_
              intro K hK Ws HS
              refine hK _ _ ?_
              clear hK K
              refine reads_first (by kernel_rfl) [(19, true)] 0 1 rfl _ #[true, true, true, true, true, true, true, true, true, true, true, true, true, true, true, true, true, true, true, true] (by kernel_rfl) ?_
              repeat (refine mix_rd1X rfl rfl (fun K hK => ?_); apply Exists.intro; refine ⟨fun W0 hW => ?_, ?_⟩; (go_simp; rfl); (go_simp; refine hK _ _ ?_; clear hK K))
              refine mix_nilX ?_
              refine fork_end (by kernel_rfl) ?_
              rintro Wz ⟨mz, rfl⟩
              go_wp2_with fail
              go_meet
              case rel => exact ⟨q, rfl, rfl, hid_mk ⟨(HKp.out _ _ HS.out.1 (grown_drewN _ _ none)).1, HS.out.2.2, HY.out.2.2.2⟩⟩
            · refine xs_box HG.out HXa.out.1 rfl rfl (fun W => by go_simp) ?_
              intro K hK q Wb HXb
              go_simp
              refine hK _ _ ?_
              clear hK K
              have HXo := hid_mk (And.intro HXb.out.1 (owns_kept HXa.out.2 HXb.out.2 (fun _ _ _ => by simp)))
              refine fork1 13 (by kernel_rfl) ?_
              refine xs_call (w := w) HXo.out.1 26 #[.pointer (some ⟨ba, 0, none⟩), .int .i64 ix, .slice a5 l.length c5] (.tuple #[.agg #[.int .i64 re, .int .i64 rs0, .int .i64 rn], .int .i64 er]) (fun W' => (∃ Za' m', AM w W' ba bb Za' Zb m' mb i ix l) ∧ W.heap.size ≤ W'.heap.size) rfl rfl (fun W => by go_simp) (fun mm => HCall.out _ a5 c5 (HXo.out.1.gr) HXo.out.2 mm) ?_
              intro K hK Wc HXc
              go_simp
              refine hK _ _ ?_
              clear hK K
              refine reads_first (by kernel_rfl) [(14, true), (15, true), (16, true)] 2 5 rfl _ #[true, true, true, true, true, true, true, true, true, true, true, true, true, true, true, true, true, true, false, false] (by kernel_rfl) ?_
              repeat (refine mix_rd1X rfl rfl (fun K hK => ?_); apply Exists.intro; refine ⟨fun W0 hW => ?_, ?_⟩; (go_simp; rfl); (go_simp; refine hK _ _ ?_; clear hK K))
              refine mix_nilX ?_
              have HY := hid_mk (show (fun W' => (∃ Za' m', AM w W' ba bb Za' Zb m' mb i ix l) ∧ W.heap.size ≤ W'.heap.size) Wc ∧ w.grownBy Wc none ∧ Blk Wc q #[.int .i64 0, .int .i64 0, .int .i64 0] 52 ∧ W.heap.size ≤ q from ⟨HXc.out.1, HXc.out.2.1, (HXc.out.2.2 q rfl).1, (HXc.out.2.2 q rfl).2⟩)
              refine fork1 18 (by kernel_rfl) ?_
              refine ys_store (w := w) q (.int .i64 re) (.int .i64 rs0) (.int .i64 rn) (fun W' => (∃ Za' m', AM w W' ba bb Za' Zb m' mb i ix l) ∧ W.heap.size ≤ W'.heap.size) (fun W' hg' => HKs.out _ _ _ HY.out.1 hg' (HY.out.2.2.1) (HY.out.2.2.2)) HY.out.2.2.1 HY.out.2.1 (Nat.le_trans HG.out.size HY.out.2.2.2) rfl rfl (fun W hb => by
                have e0 : W.cell? ⟨q, 0, none⟩ = some (.int .i64 0) := by rw [hb.cell]; rfl
                have e1 : W.cell? ⟨q, 1, none⟩ = some (.int .i64 0) := by rw [hb.cell]; rfl
                have e2 : W.cell? ⟨q, 2, none⟩ = some (.int .i64 0) := by rw [hb.cell]; rfl
                have ef := fun j => hb.frozen j
                first | (left; go_simp; done) | (right; apply Exists.intro; go_simp; rfl) | (right; apply Exists.intro; go_simp)) rfl ?_
              intro K hK Ws HS
              refine hK _ _ ?_
              clear hK K
              refine reads_first (by kernel_rfl) [(19, true)] 0 1 rfl _ #[true, true, true, true, true, true, true, true, true, true, true, true, true, true, true, true, true, true, true, true] (by kernel_rfl) ?_
              repeat (refine mix_rd1X rfl rfl (fun K hK => ?_); apply Exists.intro; refine ⟨fun W0 hW => ?_, ?_⟩; (go_simp; rfl); (go_simp; refine hK _ _ ?_; clear hK K))
              refine mix_nilX ?_
              refine fork_end (by kernel_rfl) ?_
              rintro Wz ⟨mz, rfl⟩
              go_wp2_with fail
              go_meet
              case rel => exact ⟨q, rfl, rfl, hid_mk ⟨(HKp.out _ _ HS.out.1 (grown_drewN _ _ none)).1, HS.out.2.2, HY.out.2.2.2⟩⟩
          · refine xs_box HG.out HXn.out.1 rfl rfl (fun W => by go_simp) ?_
            intro K hK q Wb HXb
            go_simp
            refine hK _ _ ?_
            clear hK K
            have HXo := hid_mk (And.intro HXb.out.1 (owns_kept HXn.out.2 HXb.out.2 (fun _ _ _ => by simp)))
            refine fork1 12 (by kernel_rfl) ?_
            refine xs_app HG.out HXo.out.1 gn HXo.out.2 l xa xc HC.out.2.2 (by omega) rfl rfl (.tmp 55) (.tmp 60) rfl rfl rfl ?_
            intro K hK a5 c5 Wa HXa
            go_simp
            refine hK _ _ ?_
            clear hK K
            refine fork1 13 (by kernel_rfl) ?_
            refine xs_call (w := w) HXa.out.1 26 #[.pointer (some ⟨ba, 0, none⟩), .int .i64 ix, .slice a5 l.length c5] (.tuple #[.agg #[.int .i64 re, .int .i64 rs0, .int .i64 rn], .int .i64 er]) (fun W' => (∃ Za' m', AM w W' ba bb Za' Zb m' mb i ix l) ∧ W.heap.size ≤ W'.heap.size) rfl rfl (fun W => by go_simp) (fun mm => HCall.out _ a5 c5 (HXa.out.1.gr) HXa.out.2 mm) ?_
            intro K hK Wc HXc
            go_simp
            refine hK _ _ ?_
            clear hK K
            refine reads_first (by kernel_rfl) [(14, true), (15, true), (16, true)] 2 5 rfl _ #[true, true, true, true, true, true, true, true, true, true, true, true, true, true, true, true, true, true, false, false] (by kernel_rfl) ?_
            repeat (refine mix_rd1X rfl rfl (fun K hK => ?_); apply Exists.intro; refine ⟨fun W0 hW => ?_, ?_⟩; (go_simp; rfl); (go_simp; refine hK _ _ ?_; clear hK K))
            refine mix_nilX ?_
            have HY := hid_mk (show (fun W' => (∃ Za' m', AM w W' ba bb Za' Zb m' mb i ix l) ∧ W.heap.size ≤ W'.heap.size) Wc ∧ w.grownBy Wc none ∧ Blk Wc q #[.int .i64 0, .int .i64 0, .int .i64 0] 52 ∧ W.heap.size ≤ q from ⟨HXc.out.1, HXc.out.2.1, (HXc.out.2.2 q rfl).1, (HXc.out.2.2 q rfl).2⟩)
            refine fork1 18 (by kernel_rfl) ?_
            refine ys_store (w := w) q (.int .i64 re) (.int .i64 rs0) (.int .i64 rn) (fun W' => (∃ Za' m', AM w W' ba bb Za' Zb m' mb i ix l) ∧ W.heap.size ≤ W'.heap.size) (fun W' hg' => HKs.out _ _ _ HY.out.1 hg' (HY.out.2.2.1) (HY.out.2.2.2)) HY.out.2.2.1 HY.out.2.1 (Nat.le_trans HG.out.size HY.out.2.2.2) rfl rfl (fun W hb => by
              have e0 : W.cell? ⟨q, 0, none⟩ = some (.int .i64 0) := by rw [hb.cell]; rfl
              have e1 : W.cell? ⟨q, 1, none⟩ = some (.int .i64 0) := by rw [hb.cell]; rfl
              have e2 : W.cell? ⟨q, 2, none⟩ = some (.int .i64 0) := by rw [hb.cell]; rfl
              have ef := fun j => hb.frozen j
              first | (left; go_simp; done) | (right; apply Exists.intro; go_simp; rfl) | (right; apply Exists.intro; go_simp)) rfl ?_
            intro K hK Ws HS
            refine hK _ _ ?_
            clear hK K
            refine reads_first (by kernel_rfl) [(19, true)] 0 1 rfl _ #[true, true, true, true, true, true, true, true, true, true, true, true, true, true, true, true, true, true, true, true] (by kernel_rfl) ?_
            repeat (refine mix_rd1X rfl rfl (fun K hK => ?_); apply Exists.intro; refine ⟨fun W0 hW => ?_, ?_⟩; (go_simp; rfl); (go_simp; refine hK _ _ ?_; clear hK K))
            refine mix_nilX ?_
            refine fork_end (by kernel_rfl) ?_
            rintro Wz ⟨mz, rfl⟩
            go_wp2_with fail
            go_meet
            case rel => exact ⟨q, rfl, rfl, hid_mk ⟨(HKp.out _ _ HS.out.1 (grown_drewN _ _ none)).1, HS.out.2.2, HY.out.2.2.2⟩⟩
        · refine xs_box HG.out HX0.out rfl rfl (fun W => by go_simp) ?_
          intro K hK q Wb HXb
          go_simp
          refine hK _ _ ?_
          clear hK K
          refine fork1 6 (by kernel_rfl) ?_
          refine xs_new HG.out HXb.out.1 rfl rfl (fun W => by go_simp) ?_
          intro K hK gn Wn HXn
          go_simp
          refine hK _ _ ?_
          clear hK K
          refine fork1 12 (by kernel_rfl) ?_
          refine xs_app HG.out HXn.out.1 gn HXn.out.2 l xa xc HC.out.2.2 (by omega) rfl rfl (.tmp 55) (.tmp 60) rfl rfl rfl ?_
          intro K hK a5 c5 Wa HXa
          go_simp
          refine hK _ _ ?_
          clear hK K
          refine fork1 13 (by kernel_rfl) ?_
          refine xs_call (w := w) HXa.out.1 26 #[.pointer (some ⟨ba, 0, none⟩), .int .i64 ix, .slice a5 l.length c5] (.tuple #[.agg #[.int .i64 re, .int .i64 rs0, .int .i64 rn], .int .i64 er]) (fun W' => (∃ Za' m', AM w W' ba bb Za' Zb m' mb i ix l) ∧ W.heap.size ≤ W'.heap.size) rfl rfl (fun W => by go_simp) (fun mm => HCall.out _ a5 c5 (HXa.out.1.gr) HXa.out.2 mm) ?_
          intro K hK Wc HXc
          go_simp
          refine hK _ _ ?_
          clear hK K
          refine reads_first (by kernel_rfl) [(14, true), (15, true), (16, true)] 2 5 rfl _ #[true, true, true, true, true, true, true, true, true, true, true, true, true, true, true, true, true, true, false, false] (by kernel_rfl) ?_
          repeat (refine mix_rd1X rfl rfl (fun K hK => ?_); apply Exists.intro; refine ⟨fun W0 hW => ?_, ?_⟩; (go_simp; rfl); (go_simp; refine hK _ _ ?_; clear hK K))
          refine mix_nilX ?_
          have HY := hid_mk (show (fun W' => (∃ Za' m', AM w W' ba bb Za' Zb m' mb i ix l) ∧ W.heap.size ≤ W'.heap.size) Wc ∧ w.grownBy Wc none ∧ Blk Wc q #[.int .i64 0, .int .i64 0, .int .i64 0] 52 ∧ W.heap.size ≤ q from ⟨HXc.out.1, HXc.out.2.1, (HXc.out.2.2 q rfl).1, (HXc.out.2.2 q rfl).2⟩)
          refine fork1 18 (by kernel_rfl) ?_
          refine ys_store (w := w) q (.int .i64 re) (.int .i64 rs0) (.int .i64 rn) (fun W' => (∃ Za' m', AM w W' ba bb Za' Zb m' mb i ix l) ∧ W.heap.size ≤ W'.heap.size) (fun W' hg' => HKs.out _ _ _ HY.out.1 hg' (HY.out.2.2.1) (HY.out.2.2.2)) HY.out.2.2.1 HY.out.2.1 (Nat.le_trans HG.out.size HY.out.2.2.2) rfl rfl (fun W hb => by
            have e0 : W.cell? ⟨q, 0, none⟩ = some (.int .i64 0) := by rw [hb.cell]; rfl
            have e1 : W.cell? ⟨q, 1, none⟩ = some (.int .i64 0) := by rw [hb.cell]; rfl
            have e2 : W.cell? ⟨q, 2, none⟩ = some (.int .i64 0) := by rw [hb.cell]; rfl
            have ef := fun j => hb.frozen j
            first | (left; go_simp; done) | (right; apply Exists.intro; go_simp; rfl) | (right; apply Exists.intro; go_simp)) rfl ?_
          intro K hK Ws HS
          refine hK _ _ ?_
          clear hK K
          refine reads_first (by kernel_rfl) [(19, true)] 0 1 rfl _ #[true, true, true, true, true, true, true, true, true, true, true, true, true, true, true, true, true, true, true, true] (by kernel_rfl) ?_
          repeat (refine mix_rd1X rfl rfl (fun K hK => ?_); apply Exists.intro; refine ⟨fun W0 hW => ?_, ?_⟩; (go_simp; rfl); (go_simp; refine hK _ _ ?_; clear hK K))
          refine mix_nilX ?_
          refine fork_end (by kernel_rfl) ?_
          rintro Wz ⟨mz, rfl⟩
          go_wp2_with fail
          go_meet
          case rel => exact ⟨q, rfl, rfl, hid_mk ⟨(HKp.out _ _ HS.out.1 (grown_drewN _ _ none)).1, HS.out.2.2, HY.out.2.2.2⟩⟩
      case rest =>
        obtain ⟨q1, rfl, rfl, HCut⟩ := hcut
        have HZb := hid_mk (fun k (hk : Zb k) => HA.out.b.hi k hk)
        have HQ1 := hid_mk HCut.out.2.2
        obtain ⟨⟨Za1, ma1, hAM⟩, hB1, _⟩ := HCut.out
        have HM := hid_mk (And.intro hAM hB1)
        clear hAM hB1 HCut HCall HKp HKs HG
        have HG := hid_mk HM.out.1.a.gr
        have HCall := hid_mk (fun (W1 : World) (a5 : Option Addr) (c5 : Nat) (hg1 : wc.grownBy W1 none) (ho : Own W1 wc.heap.size (.slice a5 l.length c5) l) (mm : Nat) => show Calls Try.prog 26 #[.pointer (some ⟨bb, 0, none⟩), .int .i64 ix, .slice a5 l.length c5] (W1.drewN mm) fun e W' => e = .returned (.tuple #[.agg #[.int .i64 re, .int .i64 rs0, .int .i64 rn], .int .i64 er]) ∧ ((∃ Za' Zb' m' m'', AL w W' ba bb Za' Zb' m' m'' (i + 1)) ∧ Blk W' q1 #[.int .i64 re, .int .i64 rs0, .int .i64 rn] 52 ∧ wc.heap.size ≤ W'.heap.size) ∧ w.grownBy W' none ∧ ∀ q cs, Blk W1 q cs 52 → wc.heap.size ≤ q → Blk W' q cs 52 by
          have hgm := grown_trans hg1 (grown_drewN W1 mm none)
          have hMC := MS.cmd HM.out.1.b (W := W1.drewN mm) (owns_kept ho (grown_drewN _ _ none) (fun _ _ _ => by simp)) hgm
          refine (hMC.apply ix (by omega) (by have := HM.out.1.small; omega) HM.out.1.small.2).mono ?_
          rintro e w7 ⟨m', rfl, hMS, hab, hK⟩
          refine ⟨by rw [← HRE.out.1, ← HRE.out.2]; rfl, ⟨⟨_, _, _, m', (HM.out.1.kept hgm).two hMS hab hK⟩, (HM.out.2.kept hgm (by simp)).keeps hK (fun hz => by have := HZb.out q1 hz; have := HQ1.out; omega), Nat.le_trans hgm.size hK.size⟩, hMS.gr, fun q cs hb hq => ?_⟩
          have hb' : Blk (W1.drewN mm) q cs 52 := hb
          exact hb'.keeps hK (fun hz => by have := HM.out.1.b.hi q hz; omega))
        have HKp := hid_mk (show ∀ (W1 W2 : World), ((∃ Za' Zb' m' m'', AL w W1 ba bb Za' Zb' m' m'' (i + 1)) ∧ Blk W1 q1 #[.int .i64 re, .int .i64 rs0, .int .i64 rn] 52 ∧ wc.heap.size ≤ W1.heap.size) → W1.grownBy W2 none → (∃ Za' Zb' m' m'', AL w W2 ba bb Za' Zb' m' m'' (i + 1)) ∧ Blk W2 q1 #[.int .i64 re, .int .i64 rs0, .int .i64 rn] 52 ∧ wc.heap.size ≤ W2.heap.size from fun W1 W2 h hg => by
          obtain ⟨⟨Z, Z', m', m'', h⟩, hb, hs⟩ := h
          exact ⟨⟨Z, Z', m', m'', h.kept hg⟩, hb.kept hg (by simp), Nat.le_trans hs hg.size⟩)
        have HL1 := hid_mk HM.out.2.lt
        have HKs := hid_mk (show ∀ (W1 W2 : World) (q : Nat), ((∃ Za' Zb' m' m'', AL w W1 ba bb Za' Zb' m' m'' (i + 1)) ∧ Blk W1 q1 #[.int .i64 re, .int .i64 rs0, .int .i64 rn] 52 ∧ wc.heap.size ≤ W1.heap.size) → W1.grownBy W2 (some q) → Blk W1 q #[.int .i64 0, .int .i64 0, .int .i64 0] 52 → wc.heap.size ≤ q → (∃ Za' Zb' m' m'', AL w W2 ba bb Za' Zb' m' m'' (i + 1)) ∧ Blk W2 q1 #[.int .i64 re, .int .i64 rs0, .int .i64 rn] 52 ∧ wc.heap.size ≤ W2.heap.size from fun W1 W2 q h hg hb hq => by
          obtain ⟨⟨Z, Z', m', m'', h⟩, hb1, hs⟩ := h
          exact ⟨⟨_, _, m', m'', h.boxed hb hg (Nat.le_trans HG.out.size hq)⟩, hb1.kept hg (by have := HL1.out; simp; omega), Nat.le_trans hs hg.size⟩)
        go_upto_region 9 with fail
        go_cut [10, 11, 12, 13] (fun s10 s11 s12 s13 wx => ∃ q : Nat, s10 = .pointer (some ⟨q1, 0, none⟩) ∧ s11 = .int .i64 er ∧ s12 = .pointer (some ⟨q, 0, none⟩) ∧ s13 = .int .i64 er ∧ Hid ((∃ Za' Zb' m' m'', AL w wx ba bb Za' Zb' m' m'' (i + 1)) ∧ Blk wx q1 #[.int .i64 re, .int .i64 rs0, .int .i64 rn] 52 ∧ Blk wx q #[.int .i64 re, .int .i64 rs0, .int .i64 rn] 52))
        case first =>
          refine wp_region_fork (X := fun _ _ _ => False) [(0, true), (1, true), (2, true), (3, true), (4, true), (5, true), (7, true), (8, true), (9, true), (10, true), (11, true)] 9 #[true, true, true, true, true, true, false, true, true, true, true, true, false, false, false, false, false, false, false, false] (cl w wc) (by kernel_rfl) (by kernel_rfl) rfl (by kernel_rfl) (fun _ _ _ h => h.elim) (shut_at0 (fun mm => grown_trans HG.out (grown_drewN _ mm _))) ⟨1, rfl⟩ ?_
          repeat (refine mix_rd1X rfl rfl (fun K hK => ?_); apply Exists.intro; refine ⟨fun W0 hW => ?_, ?_⟩; (obtain ⟨f0, f1⟩ := HAll W0 hW; go_simp; rfl); (go_simp; refine hK _ _ ?_; clear hK K))
          refine mix_nilX ?_
          have HX0 := hid_mk (show XS wc wc none from ⟨grown_refl _ _, fun q e => by cases e⟩)
          refine fork2 6 17 (by kernel_rfl) ?_ ?_
          · refine xs_new HG.out HX0.out rfl rfl (fun W => by go_simp) ?_
            intro K hK gn Wn HXn
            go_simp
            refine hK _ _ ?_
            clear hK K
            refine fork2 12 17 (by kernel_rfl) ?_ ?_
            · refine xs_app HG.out HXn.out.1 gn HXn.out.2 l xa xc HC.out.2.2 (by omega) rfl rfl (.tmp 72) (.tmp 77) rfl rfl rfl ?_
              intro K hK a5 c5 Wa HXa
              go_simp
              refine hK _ _ ?_
              clear hK K
              refine fork2 13 17 (by kernel_rfl) ?_ ?_
              · refine xs_call (w := w) HXa.out.1 26 #[.pointer (some ⟨bb, 0, none⟩), .int .i64 ix, .slice a5 l.length c5] (.tuple #[.agg #[.int .i64 re, .int .i64 rs0, .int .i64 rn], .int .i64 er]) (fun W' => (∃ Za' Zb' m' m'', AL w W' ba bb Za' Zb' m' m'' (i + 1)) ∧ Blk W' q1 #[.int .i64 re, .int .i64 rs0, .int .i64 rn] 52 ∧ wc.heap.size ≤ W'.heap.size) rfl rfl (fun W => by go_simp) (fun mm => HCall.out _ a5 c5 (HXa.out.1.gr) HXa.out.2 mm) ?_
                intro K hK Wc HXc
                go_simp
                refine hK _ _ ?_
                clear hK K
                refine reads_first (by kernel_rfl) [(14, true), (15, true), (16, true)] 3 6 rfl _ #[true, true, true, true, true, true, true, true, true, true, true, true, true, true, true, true, true, false, false, false] (by kernel_rfl) ?_
                repeat (refine mix_rd1X rfl rfl (fun K hK => ?_); apply Exists.intro; refine ⟨fun W0 hW => ?_, ?_⟩; (go_simp; rfl); (go_simp; refine hK _ _ ?_; clear hK K))
                refine mix_nilX ?_
                refine fork1 17 (by kernel_rfl) ?_
                refine ys_box (w := w) (fun W' => (∃ Za' Zb' m' m'', AL w W' ba bb Za' Zb' m' m'' (i + 1)) ∧ Blk W' q1 #[.int .i64 re, .int .i64 rs0, .int .i64 rn] 52 ∧ wc.heap.size ≤ W'.heap.size) HXc.out.1 (fun W' hg' => HKp.out _ _ HXc.out.1 hg') HXc.out.2.1 rfl rfl (fun W => by go_simp) ?_
                intro K hK q Wb HXb
                go_simp
                refine hK _ _ ?_
                clear hK K
                have HY := hid_mk (show (fun W' => (∃ Za' Zb' m' m'', AL w W' ba bb Za' Zb' m' m'' (i + 1)) ∧ Blk W' q1 #[.int .i64 re, .int .i64 rs0, .int .i64 rn] 52 ∧ wc.heap.size ≤ W'.heap.size) Wb ∧ w.grownBy Wb none ∧ Blk Wb q #[.int .i64 0, .int .i64 0, .int .i64 0] 52 ∧ wc.heap.size ≤ q from ⟨HXb.out.1, HXb.out.2.1, HXb.out.2.2.1, Nat.le_trans ((fun h => h.2.2) HXc.out.1) HXb.out.2.2.2⟩)
                refine fork1 18 (by kernel_rfl) ?_
                refine ys_store (w := w) q (.int .i64 re) (.int .i64 rs0) (.int .i64 rn) (fun W' => (∃ Za' Zb' m' m'', AL w W' ba bb Za' Zb' m' m'' (i + 1)) ∧ Blk W' q1 #[.int .i64 re, .int .i64 rs0, .int .i64 rn] 52 ∧ wc.heap.size ≤ W'.heap.size) (fun W' hg' => HKs.out _ _ _ HY.out.1 hg' (HY.out.2.2.1) (HY.out.2.2.2)) HY.out.2.2.1 HY.out.2.1 (Nat.le_trans HG.out.size HY.out.2.2.2) rfl rfl (fun W hb => by
                  have e0 : W.cell? ⟨q, 0, none⟩ = some (.int .i64 0) := by rw [hb.cell]; rfl
                  have e1 : W.cell? ⟨q, 1, none⟩ = some (.int .i64 0) := by rw [hb.cell]; rfl
                  have e2 : W.cell? ⟨q, 2, none⟩ = some (.int .i64 0) := by rw [hb.cell]; rfl
                  have ef := fun j => hb.frozen j
                  first | (left; go_simp; done) | (right; apply Exists.intro; go_simp; rfl) | (right; apply Exists.intro; go_simp)) rfl ?_
                intro K hK Ws HS
                refine hK _ _ ?_
                clear hK K
                refine reads_first (by kernel_rfl) [(19, true)] 0 1 rfl _ #[true, true, true, true, true, true, true, true, true, true, true, true, true, true, true, true, true, true, true, true] (by kernel_rfl) ?_
                repeat (refine mix_rd1X rfl rfl (fun K hK => ?_); apply Exists.intro; refine ⟨fun W0 hW => ?_, ?_⟩; (go_simp; rfl); (go_simp; refine hK _ _ ?_; clear hK K))
                refine mix_nilX ?_
                refine fork_end (by kernel_rfl) ?_
                rintro Wz ⟨mz, rfl⟩
                go_wp2_with fail
                go_meet
                case rel => exact ⟨q, rfl, rfl, rfl, rfl, hid_mk ⟨(HKp.out _ _ HS.out.1 (grown_drewN _ _ none)).1, (HKp.out _ _ HS.out.1 (grown_drewN _ _ none)).2.1, HS.out.2.2⟩⟩
              · refine xs_box HG.out HXa.out.1 rfl rfl (fun W => by go_simp) ?_
                intro K hK q Wb HXb
                go_simp
                refine hK _ _ ?_
                clear hK K
                have HXo := hid_mk (And.intro HXb.out.1 (owns_kept HXa.out.2 HXb.out.2 (fun _ _ _ => by simp)))
                refine fork1 13 (by kernel_rfl) ?_
                refine xs_call (w := w) HXo.out.1 26 #[.pointer (some ⟨bb, 0, none⟩), .int .i64 ix, .slice a5 l.length c5] (.tuple #[.agg #[.int .i64 re, .int .i64 rs0, .int .i64 rn], .int .i64 er]) (fun W' => (∃ Za' Zb' m' m'', AL w W' ba bb Za' Zb' m' m'' (i + 1)) ∧ Blk W' q1 #[.int .i64 re, .int .i64 rs0, .int .i64 rn] 52 ∧ wc.heap.size ≤ W'.heap.size) rfl rfl (fun W => by go_simp) (fun mm => HCall.out _ a5 c5 (HXo.out.1.gr) HXo.out.2 mm) ?_
                intro K hK Wc HXc
                go_simp
                refine hK _ _ ?_
                clear hK K
                refine reads_first (by kernel_rfl) [(14, true), (15, true), (16, true)] 2 5 rfl _ #[true, true, true, true, true, true, true, true, true, true, true, true, true, true, true, true, true, true, false, false] (by kernel_rfl) ?_
                repeat (refine mix_rd1X rfl rfl (fun K hK => ?_); apply Exists.intro; refine ⟨fun W0 hW => ?_, ?_⟩; (go_simp; rfl); (go_simp; refine hK _ _ ?_; clear hK K))
                refine mix_nilX ?_
                have HY := hid_mk (show (fun W' => (∃ Za' Zb' m' m'', AL w W' ba bb Za' Zb' m' m'' (i + 1)) ∧ Blk W' q1 #[.int .i64 re, .int .i64 rs0, .int .i64 rn] 52 ∧ wc.heap.size ≤ W'.heap.size) Wc ∧ w.grownBy Wc none ∧ Blk Wc q #[.int .i64 0, .int .i64 0, .int .i64 0] 52 ∧ wc.heap.size ≤ q from ⟨HXc.out.1, HXc.out.2.1, (HXc.out.2.2 q rfl).1, (HXc.out.2.2 q rfl).2⟩)
                refine fork1 18 (by kernel_rfl) ?_
                refine ys_store (w := w) q (.int .i64 re) (.int .i64 rs0) (.int .i64 rn) (fun W' => (∃ Za' Zb' m' m'', AL w W' ba bb Za' Zb' m' m'' (i + 1)) ∧ Blk W' q1 #[.int .i64 re, .int .i64 rs0, .int .i64 rn] 52 ∧ wc.heap.size ≤ W'.heap.size) (fun W' hg' => HKs.out _ _ _ HY.out.1 hg' (HY.out.2.2.1) (HY.out.2.2.2)) HY.out.2.2.1 HY.out.2.1 (Nat.le_trans HG.out.size HY.out.2.2.2) rfl rfl (fun W hb => by
                  have e0 : W.cell? ⟨q, 0, none⟩ = some (.int .i64 0) := by rw [hb.cell]; rfl
                  have e1 : W.cell? ⟨q, 1, none⟩ = some (.int .i64 0) := by rw [hb.cell]; rfl
                  have e2 : W.cell? ⟨q, 2, none⟩ = some (.int .i64 0) := by rw [hb.cell]; rfl
                  have ef := fun j => hb.frozen j
                  first | (left; go_simp; done) | (right; apply Exists.intro; go_simp; rfl) | (right; apply Exists.intro; go_simp)) rfl ?_
                intro K hK Ws HS
                refine hK _ _ ?_
                clear hK K
                refine reads_first (by kernel_rfl) [(19, true)] 0 1 rfl _ #[true, true, true, true, true, true, true, true, true, true, true, true, true, true, true, true, true, true, true, true] (by kernel_rfl) ?_
                repeat (refine mix_rd1X rfl rfl (fun K hK => ?_); apply Exists.intro; refine ⟨fun W0 hW => ?_, ?_⟩; (go_simp; rfl); (go_simp; refine hK _ _ ?_; clear hK K))
                refine mix_nilX ?_
                refine fork_end (by kernel_rfl) ?_
                rintro Wz ⟨mz, rfl⟩
                go_wp2_with fail
                go_meet
                case rel => exact ⟨q, rfl, rfl, rfl, rfl, hid_mk ⟨(HKp.out _ _ HS.out.1 (grown_drewN _ _ none)).1, (HKp.out _ _ HS.out.1 (grown_drewN _ _ none)).2.1, HS.out.2.2⟩⟩
            · refine xs_box HG.out HXn.out.1 rfl rfl (fun W => by go_simp) ?_
              intro K hK q Wb HXb
              go_simp
              refine hK _ _ ?_
              clear hK K
              have HXo := hid_mk (And.intro HXb.out.1 (owns_kept HXn.out.2 HXb.out.2 (fun _ _ _ => by simp)))
              refine fork1 12 (by kernel_rfl) ?_
              refine xs_app HG.out HXo.out.1 gn HXo.out.2 l xa xc HC.out.2.2 (by omega) rfl rfl (.tmp 72) (.tmp 77) rfl rfl rfl ?_
              intro K hK a5 c5 Wa HXa
              go_simp
              refine hK _ _ ?_
              clear hK K
              refine fork1 13 (by kernel_rfl) ?_
              refine xs_call (w := w) HXa.out.1 26 #[.pointer (some ⟨bb, 0, none⟩), .int .i64 ix, .slice a5 l.length c5] (.tuple #[.agg #[.int .i64 re, .int .i64 rs0, .int .i64 rn], .int .i64 er]) (fun W' => (∃ Za' Zb' m' m'', AL w W' ba bb Za' Zb' m' m'' (i + 1)) ∧ Blk W' q1 #[.int .i64 re, .int .i64 rs0, .int .i64 rn] 52 ∧ wc.heap.size ≤ W'.heap.size) rfl rfl (fun W => by go_simp) (fun mm => HCall.out _ a5 c5 (HXa.out.1.gr) HXa.out.2 mm) ?_
              intro K hK Wc HXc
              go_simp
              refine hK _ _ ?_
              clear hK K
              refine reads_first (by kernel_rfl) [(14, true), (15, true), (16, true)] 2 5 rfl _ #[true, true, true, true, true, true, true, true, true, true, true, true, true, true, true, true, true, true, false, false] (by kernel_rfl) ?_
              repeat (refine mix_rd1X rfl rfl (fun K hK => ?_); apply Exists.intro; refine ⟨fun W0 hW => ?_, ?_⟩; (go_simp; rfl); (go_simp; refine hK _ _ ?_; clear hK K))
              refine mix_nilX ?_
              have HY := hid_mk (show (fun W' => (∃ Za' Zb' m' m'', AL w W' ba bb Za' Zb' m' m'' (i + 1)) ∧ Blk W' q1 #[.int .i64 re, .int .i64 rs0, .int .i64 rn] 52 ∧ wc.heap.size ≤ W'.heap.size) Wc ∧ w.grownBy Wc none ∧ Blk Wc q #[.int .i64 0, .int .i64 0, .int .i64 0] 52 ∧ wc.heap.size ≤ q from ⟨HXc.out.1, HXc.out.2.1, (HXc.out.2.2 q rfl).1, (HXc.out.2.2 q rfl).2⟩)
              refine fork1 18 (by kernel_rfl) ?_
              refine ys_store (w := w) q (.int .i64 re) (.int .i64 rs0) (.int .i64 rn) (fun W' => (∃ Za' Zb' m' m'', AL w W' ba bb Za' Zb' m' m'' (i + 1)) ∧ Blk W' q1 #[.int .i64 re, .int .i64 rs0, .int .i64 rn] 52 ∧ wc.heap.size ≤ W'.heap.size) (fun W' hg' => HKs.out _ _ _ HY.out.1 hg' (HY.out.2.2.1) (HY.out.2.2.2)) HY.out.2.2.1 HY.out.2.1 (Nat.le_trans HG.out.size HY.out.2.2.2) rfl rfl (fun W hb => by
                have e0 : W.cell? ⟨q, 0, none⟩ = some (.int .i64 0) := by rw [hb.cell]; rfl
                have e1 : W.cell? ⟨q, 1, none⟩ = some (.int .i64 0) := by rw [hb.cell]; rfl
                have e2 : W.cell? ⟨q, 2, none⟩ = some (.int .i64 0) := by rw [hb.cell]; rfl
                have ef := fun j => hb.frozen j
                first | (left; go_simp; done) | (right; apply Exists.intro; go_simp; rfl) | (right; apply Exists.intro; go_simp)) rfl ?_
              intro K hK Ws HS
              refine hK _ _ ?_
              clear hK K
              refine reads_first (by kernel_rfl) [(19, true)] 0 1 rfl _ #[true, true, true, true, true, true, true, true, true, true, true, true, true, true, true, true, true, true, true, true] (by kernel_rfl) ?_
              repeat (refine mix_rd1X rfl rfl (fun K hK => ?_); apply Exists.intro; refine ⟨fun W0 hW => ?_, ?_⟩; (go_simp; rfl); (go_simp; refine hK _ _ ?_; clear hK K))
              refine mix_nilX ?_
              refine fork_end (by kernel_rfl) ?_
              rintro Wz ⟨mz, rfl⟩
              go_wp2_with fail
              go_meet
              case rel => exact ⟨q, rfl, rfl, rfl, rfl, hid_mk ⟨(HKp.out _ _ HS.out.1 (grown_drewN _ _ none)).1, (HKp.out _ _ HS.out.1 (grown_drewN _ _ none)).2.1, HS.out.2.2⟩⟩
          · refine xs_box HG.out HX0.out rfl rfl (fun W => by go_simp) ?_
            intro K hK q Wb HXb
            go_simp
            refine hK _ _ ?_
            clear hK K
            refine fork1 6 (by kernel_rfl) ?_
            refine xs_new HG.out HXb.out.1 rfl rfl (fun W => by go_simp) ?_
            intro K hK gn Wn HXn
            go_simp
            refine hK _ _ ?_
            clear hK K
            refine fork1 12 (by kernel_rfl) ?_
            refine xs_app HG.out HXn.out.1 gn HXn.out.2 l xa xc HC.out.2.2 (by omega) rfl rfl (.tmp 72) (.tmp 77) rfl rfl rfl ?_
            intro K hK a5 c5 Wa HXa
            go_simp
            refine hK _ _ ?_
            clear hK K
            refine fork1 13 (by kernel_rfl) ?_
            refine xs_call (w := w) HXa.out.1 26 #[.pointer (some ⟨bb, 0, none⟩), .int .i64 ix, .slice a5 l.length c5] (.tuple #[.agg #[.int .i64 re, .int .i64 rs0, .int .i64 rn], .int .i64 er]) (fun W' => (∃ Za' Zb' m' m'', AL w W' ba bb Za' Zb' m' m'' (i + 1)) ∧ Blk W' q1 #[.int .i64 re, .int .i64 rs0, .int .i64 rn] 52 ∧ wc.heap.size ≤ W'.heap.size) rfl rfl (fun W => by go_simp) (fun mm => HCall.out _ a5 c5 (HXa.out.1.gr) HXa.out.2 mm) ?_
            intro K hK Wc HXc
            go_simp
            refine hK _ _ ?_
            clear hK K
            refine reads_first (by kernel_rfl) [(14, true), (15, true), (16, true)] 2 5 rfl _ #[true, true, true, true, true, true, true, true, true, true, true, true, true, true, true, true, true, true, false, false] (by kernel_rfl) ?_
            repeat (refine mix_rd1X rfl rfl (fun K hK => ?_); apply Exists.intro; refine ⟨fun W0 hW => ?_, ?_⟩; (go_simp; rfl); (go_simp; refine hK _ _ ?_; clear hK K))
            refine mix_nilX ?_
            have HY := hid_mk (show (fun W' => (∃ Za' Zb' m' m'', AL w W' ba bb Za' Zb' m' m'' (i + 1)) ∧ Blk W' q1 #[.int .i64 re, .int .i64 rs0, .int .i64 rn] 52 ∧ wc.heap.size ≤ W'.heap.size) Wc ∧ w.grownBy Wc none ∧ Blk Wc q #[.int .i64 0, .int .i64 0, .int .i64 0] 52 ∧ wc.heap.size ≤ q from ⟨HXc.out.1, HXc.out.2.1, (HXc.out.2.2 q rfl).1, (HXc.out.2.2 q rfl).2⟩)
            refine fork1 18 (by kernel_rfl) ?_
            refine ys_store (w := w) q (.int .i64 re) (.int .i64 rs0) (.int .i64 rn) (fun W' => (∃ Za' Zb' m' m'', AL w W' ba bb Za' Zb' m' m'' (i + 1)) ∧ Blk W' q1 #[.int .i64 re, .int .i64 rs0, .int .i64 rn] 52 ∧ wc.heap.size ≤ W'.heap.size) (fun W' hg' => HKs.out _ _ _ HY.out.1 hg' (HY.out.2.2.1) (HY.out.2.2.2)) HY.out.2.2.1 HY.out.2.1 (Nat.le_trans HG.out.size HY.out.2.2.2) rfl rfl (fun W hb => by
              have e0 : W.cell? ⟨q, 0, none⟩ = some (.int .i64 0) := by rw [hb.cell]; rfl
              have e1 : W.cell? ⟨q, 1, none⟩ = some (.int .i64 0) := by rw [hb.cell]; rfl
              have e2 : W.cell? ⟨q, 2, none⟩ = some (.int .i64 0) := by rw [hb.cell]; rfl
              have ef := fun j => hb.frozen j
              first | (left; go_simp; done) | (right; apply Exists.intro; go_simp; rfl) | (right; apply Exists.intro; go_simp)) rfl ?_
            intro K hK Ws HS
            refine hK _ _ ?_
            clear hK K
            refine reads_first (by kernel_rfl) [(19, true)] 0 1 rfl _ #[true, true, true, true, true, true, true, true, true, true, true, true, true, true, true, true, true, true, true, true] (by kernel_rfl) ?_
            repeat (refine mix_rd1X rfl rfl (fun K hK => ?_); apply Exists.intro; refine ⟨fun W0 hW => ?_, ?_⟩; (go_simp; rfl); (go_simp; refine hK _ _ ?_; clear hK K))
            refine mix_nilX ?_
            refine fork_end (by kernel_rfl) ?_
            rintro Wz ⟨mz, rfl⟩
            go_wp2_with fail
            go_meet
            case rel => exact ⟨q, rfl, rfl, rfl, rfl, hid_mk ⟨(HKp.out _ _ HS.out.1 (grown_drewN _ _ none)).1, (HKp.out _ _ HS.out.1 (grown_drewN _ _ none)).2.1, HS.out.2.2⟩⟩
        case rest =>
          clear HCall HKp HKs HG HL1 HM HQ1 HZb HAll HRE HEQ HC HA
          obtain ⟨q2, rfl, rfl, rfl, rfl, HCut2⟩ := hcut
          obtain ⟨⟨Za2, Zb2, ma2, mb2, hAL⟩, hB1, hB2⟩ := HCut2.out
          have HL := hid_mk hAL
          have x0 : wc.cell? ⟨q1, 0, none⟩ = some (.int .i64 re) := by rw [hB1.cell]; rfl
          have x1 : wc.cell? ⟨q1, 1, none⟩ = some (.int .i64 rs0) := by rw [hB1.cell]; rfl
          have x2 : wc.cell? ⟨q1, 2, none⟩ = some (.int .i64 rn) := by rw [hB1.cell]; rfl
          have y0 : wc.cell? ⟨q2, 0, none⟩ = some (.int .i64 re) := by rw [hB2.cell]; rfl
          have y1 : wc.cell? ⟨q2, 1, none⟩ = some (.int .i64 rs0) := by rw [hB2.cell]; rfl
          have y2 : wc.cell? ⟨q2, 2, none⟩ = some (.int .i64 rn) := by rw [hB2.cell]; rfl
          clear hAL hB1 hB2 HCut2
          by_cases hik : (i : Int) = k
          · have hik' : ((i : Int) == k) = true := by simpa using hik
            go_upto_region 13 with fail
            clear x0 x1 x2 y0 y1 y2
            have hsm := HL.out.small
            have HW := hid_mk (show Wf ma2.ab ∧ nextA ma2.ab ≤ 1048576 ∧ ma2.ab.sp = 9 from ⟨HL.out.wf, by have := HL.out.nx; omega, HL.out.sp⟩)
            go_wp2_with fail
            refine (save_ab HL.out.a.isM (by omega) hsm.2.2.1 (ab_lim HW.out.1 (by have := HW.out.2.1; omega))).mono ?_
            rintro e w8 ⟨v8, rfl, ho8, hg8⟩
            obtain ⟨a8, c8, rfl⟩ := ho8.len
            have H8 := hid_mk (And.intro ho8 hg8)
            clear ho8 hg8
            have HLen := hid_mk (show (saveB ma2.ab).length ≤ 2000000000000 by
              have h := saveB_le ma2.ab (by have := HW.out.1.ap; have := HW.out.2.1; unfold nextA at this; omega) HW.out.1.few (fun s hs => by have := HW.out.1.ses s hs; have := HW.out.1.ap; have := HW.out.2.1; unfold nextA at this; omega) HW.out.1.dat
              have := HW.out.2.1
              unfold nextA at this
              omega)
            go_wp2_with fail
            refine (restore_any 9 a8 c8 (saveB ma2.ab) w8 (by omega) (by omega) H8.out.1.byt HLen.out).mono ?_
            intro e w9 hp
            have HP := hid_mk hp
            clear hp
            have hrest := restA_put HW.out.1 (by have := HW.out.2.1; unfold nextA at this; omega)
            rw [HW.out.2.2] at hrest
            rw [hrest] at HP
            obtain ⟨bc, mc, he, hMc, hmc, hg9⟩ := HP.out
            have H9 := hid_mk (show AL w w9 ba bc Za2 (fun k => w8.heap.size ≤ k ∧ k < w9.heap.size) ma2 mc (i + 1) from HL.out.again (grown_trans H8.out.2 hg9) w8 H8.out.2 hMc hmc)
            rw [he]
            clear HP he hMc hmc hg9 hrest H8 HLen HW hsm HL
            go_wp2_with (go_at_call 16; refine (num_any _ _).mono ?_; rintro e w' ⟨rfl, hw⟩; rw [hw]; clear hw)
            go_roundg (os.length - (i + 1))
            case measure => omega
            case rel => exact ⟨i + 1, bc, _, _, _, _, by omega, rfl, rfl, by go_num, H9⟩
          · have hik' : ((i : Int) == k) = false := by simpa using hik
            go_wp2_with fail
            go_roundg (os.length - (i + 1))
            case measure => omega
            case rel => exact ⟨i + 1, bb, _, _, _, _, by omega, rfl, rfl, by go_num, HL⟩
    · have hil : i = os.length := by omega
      have hnlt : ¬ (i : Int) < (os.length : Int) := by omega
      clear hil
      have hsm := HA.out.small
      have HW := hid_mk (show Wf ma.ab ∧ nextA ma.ab ≤ 1048576 from ⟨HA.out.wf, by have := HA.out.nx; omega⟩)
      have HSa := hid_mk (fun W' (hg : W.grownBy W' none) => save_ab (HA.out.a.isM.kept hg) (by omega) hsm.2.2.1 (ab_lim HW.out.1 (by have := HW.out.2; omega)))
      have HSb := hid_mk (fun W' (hg : W.grownBy W' none) => save_ab (HA.out.b.isM.kept hg) (by omega) hsm.2.2.2 (ab_lim (HA.out.eq ▸ HW.out.1) (by have := HW.out.2; rw [← HA.out.eq]; omega)))
      have HLB := hid_mk (HA.out.eq)
      obtain ⟨L, hL⟩ : ∃ L, L = saveB ma.ab := ⟨_, rfl⟩
      rw [← HLB.out] at HSb
      rw [← hL] at HSa HSb
      clear hL
      go_upto_region 17 with fail
      refine wp_region_mix [(0, true), (3, true), (1, false), (2, true), (4, false), (5, true), (6, true), (7, true)] (at0 W (fun W0 => W.grownBy W0 none)) (by kernel_rfl) (by kernel_rfl) rfl (by kernel_rfl) (shut_at0 (fun mm => grown_drewN _ mm _)) ⟨1, rfl⟩ ?_
      repeat (refine mix_rd1 rfl rfl (fun K hK => ?_); apply Exists.intro; refine ⟨fun W0 hW => ?_, ?_⟩; (go_simp; rfl); (go_simp; refine hK _ _ ?_; clear hK K))
      refine mix_call rfl rfl 25 #[.pointer (some ⟨ba, 0, none⟩)] (fun W => by go_simp) ?_
      rintro W0 ⟨m3, rfl⟩
      refine (HSa.out _ (grown_drewN W m3 none)).mono ?_
      rintro e w5 ⟨v5, rfl, ho5, hg5⟩
      obtain ⟨a5, c5, rfl⟩ := ho5.len
      have H5 := hid_mk (show Byt w5 (.slice a5 L.length c5) L ∧ W.grownBy w5 none from ⟨ho5.byt, grown_trans (grown_drewN _ _ none) hg5⟩)
      clear ho5 hg5
      refine ⟨_, rfl, at0 w5 (fun W0 => w5.grownBy W0 none), ⟨0, rfl⟩, shut_at0 (fun mm => grown_drewN _ mm _), fun _ h => grown_trans H5.out.2 h, ?_⟩
      have HC5 : ∀ W0, w5.grownBy W0 none → (convert 22 9 (.slice a5 L.length c5)).run Try.prog W0 = .ok (.string ⟨L.toArray⟩) W0 := fun W0 hW => (H5.out.1.kept hW).text
      repeat (refine mix_rd1 rfl rfl (fun K hK => ?_); apply Exists.intro; refine ⟨fun W0 hW => ?_, ?_⟩; (have f5 := HC5 W0 hW; go_simp; rfl); (go_simp; refine hK _ _ ?_; clear hK K))
      refine mix_call rfl rfl 25 #[.pointer (some ⟨bb, 0, none⟩)] (fun W => by go_simp) ?_
      rintro W0 ⟨m4, rfl⟩
      refine (HSb.out _ (grown_trans H5.out.2 (grown_drewN w5 m4 none))).mono ?_
      rintro e w6 ⟨v6, rfl, ho6, hg6⟩
      obtain ⟨a6, c6, rfl⟩ := ho6.len
      have H6 := hid_mk (show Byt w6 (.slice a6 L.length c6) L ∧ w5.grownBy w6 none from ⟨ho6.byt, grown_trans (grown_drewN _ _ none) hg6⟩)
      clear ho6 hg6 HC5
      refine ⟨_, rfl, at0 w6 (fun W0 => w6.grownBy W0 none), ⟨0, rfl⟩, shut_at0 (fun mm => grown_drewN _ mm _), fun _ h => grown_trans H6.out.2 h, ?_⟩
      have HC6 : ∀ W0, w6.grownBy W0 none → (convert 22 9 (.slice a6 L.length c6)).run Try.prog W0 = .ok (.string ⟨L.toArray⟩) W0 := fun W0 hW => (H6.out.1.kept hW).text
      repeat (refine mix_rd1 rfl rfl (fun K hK => ?_); apply Exists.intro; refine ⟨fun W0 hW => ?_, ?_⟩; (have f6 := HC6 W0 hW; go_simp; rfl); (go_simp; refine hK _ _ ?_; clear hK K))
      refine mix_nil ?_
      rintro W9 ⟨m9, rfl⟩
      have HG9 := hid_mk (show w.grownBy (w6.drewN m9) none from grown_trans HA.out.a.gr (grown_trans H5.out.2 (grown_trans H6.out.2 (grown_drewN _ _ none))))
      generalize w6.drewN m9 = w9 at *
      go_wp2_with fail
      go_ret
      exact ⟨ret_bool (by simp), HG9.out⟩
end Go.Proofs.Ytpncbehabfkhkaa.W
