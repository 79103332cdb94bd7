/- WirePuts: its walk. -/
import Derived.Test.YtppnmhdmpgdieaaPutB
import Derived.Test.YtppnmhdmpgdieaaMix
import Derived.Deep.LoopGhost
import Derived.Deep.DeepCutAuto
namespace Go.Proofs.Ytppnmhdmpgdieaa
open Go.RowKit Go.Maps
set_option linter.unusedVariables false
set_option linter.unusedSimpArgs false

theorem text_kept {w : World} {v : Value} {l : List UInt8} (h : Byt w v l) : ∀ W, w.grownBy W none → (convert 22 9 v).run Try.prog W = .ok (.string ⟨l.toArray⟩) W := fun W hW => (h.kept hW).text
theorem draw_kept {w : World} : ∀ m, w.grownBy (w.drewN m) none := fun m => grown_drewN w m none

set_option maxRecDepth 100000 in
set_option maxHeartbeats 4000000 in
theorem puts_any (n : Int) (v : Value) (d : List UInt8) (lv : Value) (ps : List (Value × List UInt8)) (w : World) (h : Byt w v d) (hp : Parts w lv ps) (hd : d.length ≤ 1048576) (hpl : ps.length ≤ 1048576) (hfl : (flat ps).length ≤ 1048576) :
    Calls Try.prog 3 #[.int .i64 n, v, lv] w fun e w' => e = .returned (.bool true) ∧ w.grownBy w' none := by
  obtain ⟨av, cv, rfl⟩ := h.len
  obtain ⟨pa, pc, rfl⟩ := hp.len
  have HB := hid_mk h
  have HP := hid_mk hp
  have HFL := hid_mk hfl
  have HD := hid_mk (show d.length + 2 ≤ 140737488355328 by omega)
  clear h hp hfl
  go_enter Try.func3, Try.ntmps3
  go_wp2_with fail
  refine (lent_any _ d w HB.out HD.out).mono ?_
  rintro e w1 ⟨g, cap, rfl, ho, hg1⟩
  obtain ⟨hb1, _, _, hcap⟩ := lent_byt ho
  have H1 := hid_mk (And.intro ho (And.intro hg1 hb1))
  clear ho hg1 hb1
  go_wp2_with fail
  refine (putNumber_any n w1).mono ?_
  rintro e w2 ⟨a2, c2, rfl, ho2, hg2⟩
  have H2 := hid_mk (And.intro ho2 hg2)
  clear ho2 hg2
  go_wp2_with fail
  refine (rputNumber_any n w2).mono ?_
  rintro e w3 ⟨a3, c3, rfl, ho3, hg3⟩
  have H3 := hid_mk (And.intro ho3 hg3)
  clear ho3 hg3
  go_wp2_with fail
  refine (putBytes_any _ d w3 (H1.out.2.2.kept (grown_trans H2.out.2 H3.out.2))).mono ?_
  rintro e w4 ⟨a4, c4, rfl, ho4, hg4⟩
  have H4 := hid_mk (And.intro ho4 hg4)
  clear ho4 hg4
  have G4 := hid_mk (grown_trans H1.out.2.1 (grown_trans H2.out.2 (grown_trans H3.out.2 H4.out.2)))
  go_wp2_with fail
  refine (rputBytes_any _ d w4 (HB.out.kept G4.out)).mono ?_
  rintro e w5 ⟨a5, c5, rfl, ho5, hg5⟩
  have G5 := hid_mk (grown_trans G4.out hg5)
  have T2 := hid_mk (H2.out.1.byt.kept (grown_trans H3.out.2 (grown_trans H4.out.2 hg5)))
  have T3 := hid_mk (H3.out.1.byt.kept (grown_trans H4.out.2 hg5))
  have T4 := hid_mk (H4.out.1.byt.kept hg5)
  have T5 := hid_mk ho5.byt
  have HO1 := hid_mk (H1.out.1.kept (grown_trans H2.out.2 (grown_trans H3.out.2 (grown_trans H4.out.2 hg5))) (.inl rfl))
  clear ho5 hg5 H1 H2 H3 H4 G4
  generalize (numL n).length = nl at *
  generalize numErr n = ne at *
  generalize (txtL d).length = tl at *
  generalize txtErr d.length = te at *
  go_wp2_with fail
  go_loopg [16, 17] ps.length (fun k bv iv W => ∃ (i m : Nat) (a : Option Addr) (c : Nat), i ≤ ps.length ∧ k = ps.length - i ∧ iv = .int .i64 i ∧ bv = .slice a m c ∧ Hid (Own W w5.heap.size bv (flat (ps.take i)) ∧ w5.grownBy W none ∧ m = (flat (ps.take i)).length))
  case atStart => exact ⟨0, 0, none, 0, Nat.zero_le _, rfl, rfl, rfl, hid_mk ⟨World.ownsRow_nil _ _ _ _, grown_refl _ _, rfl⟩⟩
  case round =>
    obtain ⟨i, m, a, c, hi, hgk, rfl, rfl, H⟩ := hrel
    by_cases hlt : i < ps.length
    · obtain ⟨pb, poff, pcap, e1, _, hpc⟩ := HP.out.at (by omega)
      cases e1
      obtain ⟨pc0, pby⟩ := hpc i ps[i] (by simp [hlt])
      have HF := hid_mk (flat_take ps i hlt)
      have HFLE := hid_mk (flat_le ps (i + 1))
      clear hpc
      generalize ps[i] = p at *
      obtain ⟨pv, pd⟩ := p
      simp only at pc0 pby
      obtain ⟨qa, qc, rfl⟩ := pby.len
      have hmp : m + pd.length ≤ 1048576 := by
        have h1 := congrArg List.length HF.out
        have h2 := HFLE.out
        have h3 := HFL.out
        have h4 := H.out.2.2
        rw [List.length_append] at h1
        simp only at h1
        omega
      have hcell := (grown_trans G5.out H.out.2.1).cell pc0 (by simp)
      have PB := hid_mk (pby.kept (grown_trans G5.out H.out.2.1))
      have hlI : (i : Int) < (ps.length : Int) := by omega
      clear pby pc0
      go_wp2_with (at_builtin; refine wpList_append_new w5 _ rfl (.tmp 46) (.tmp 50) rfl H.out.2.1 (.slice a m c) (flat (ps.take i)) rfl H.out.1 pd _ rfl PB.out (by rw [← H.out.2.2]; omega) ?_; intro a6 c6 w6 P6; rw [← H.out.2.2] at P6 ⊢)
      go_roundg (ps.length - (i + 1))
      case measure => omega
      case rel =>
        exact ⟨i + 1, m + pd.length, a6, c6, by omega, rfl, by go_num, rfl, hid_mk ⟨by rw [HF.out]; exact P6.out.1, P6.out.2.1, by rw [HF.out, List.length_append, ← H.out.2.2]⟩⟩
    · have hie : i = ps.length := by omega
      subst hie
      have HA : Hid (Own wr w5.heap.size (.slice a m c) (flat ps) ∧ w5.grownBy wr none) := by
        have := H.out
        rw [List.take_length] at this
        exact hid_mk ⟨this.1, this.2.1⟩
      have hlI : ¬ ((ps.length : Int) < (ps.length : Int)) := by omega
      have K2 := text_kept (T2.out.kept HA.out.2)
      have K3 := text_kept (T3.out.kept HA.out.2)
      have K4 := text_kept (T4.out.kept HA.out.2)
      have K5 := text_kept (T5.out.kept HA.out.2)
      have KA := text_kept HA.out.1.byt
      have HJ := hid_mk (fun m => join_any _ ps (wr.drewN m) (HP.out.kept (grown_trans G5.out (grown_trans HA.out.2 (draw_kept m)))) (by omega) (by have := HFL.out; omega))
      have GR := hid_mk (grown_trans G5.out HA.out.2)
      clear H
      go_upto_region 11 with fail
      refine wp_region_mix [(0, true), (1, true), (2, true), (3, true), (4, true), (5, true), (6, true), (7, true), (8, true), (9, true), (10, true), (11, true), (12, true), (13, true), (14, true), (15, true), (16, true), (17, true), (18, true), (19, true), (20, true), (21, true), (22, true), (23, true), (24, true), (25, true), (28, true), (29, true), (26, false), (27, true), (30, true), (31, true), (32, true), (33, true), (34, true), (35, false), (36, true), (37, true), (38, false), (39, true), (40, true)] (at0 wr (fun W => wr.grownBy W none)) (by kernel_rfl) (by kernel_rfl) rfl (by kernel_rfl) (shut_at0 draw_kept) ⟨1, rfl⟩ ?_
      repeat (first
        | (refine mix_no1 rfl rfl (fun K hK => ?_); go_simp; refine hK _ _ ?_; clear hK K)
        | (refine mix_rd1 rfl rfl (fun K hK => ?_); apply Exists.intro; refine ⟨fun W hW => ?_, ?_⟩; (have f2 := K2 W hW; have f3 := K3 W hW; have f4 := K4 W hW; have f5 := K5 W hW; have fa := KA W hW; go_simp; rfl); (go_simp; refine hK _ _ ?_; clear hK K))
        | (refine mix_rdcall rfl rfl 14 #[.int .i64 ne] (.int .i64 ne) (fun W => ?_) (fun W hW => (num_any ne W).mono (fun e w' ⟨h1, h2⟩ => ⟨h1, 0, h2⟩)) ?_; focus (go_simp; done))
        | (refine mix_rdcall rfl rfl 14 #[.int .i64 te] (.int .i64 te) (fun W => ?_) (fun W hW => (num_any te W).mono (fun e w' ⟨h1, h2⟩ => ⟨h1, 0, h2⟩)) ?_; focus (go_simp; done)))
      refine mix_call rfl rfl 15 #[.slice pa ps.length pc] (fun W => by go_simp) ?_
      rintro W ⟨m7, rfl⟩
      refine (HJ.out m7).mono ?_
      rintro e w7 ⟨v7, rfl, ho7, hg7⟩
      obtain ⟨a7, c7, rfl⟩ := ho7.len
      have G7 := hid_mk (grown_trans (draw_kept m7) hg7)
      refine ⟨_, rfl, at0 w7 (fun W => w7.grownBy W none), ⟨0, rfl⟩, shut_at0 draw_kept, fun _ h => grown_trans G7.out h, ?_⟩
      have K7 := text_kept ho7.byt
      have KA7 : ∀ W, w7.grownBy W none → (convert 22 9 (.slice a m c)).run Try.prog W = .ok (.string ⟨(flat ps).toArray⟩) W := fun W hW => KA W (grown_trans G7.out hW)
      have HS := hid_mk (fun m => stays_any w.heap.size g cap d (.slice av d.length cv) (w7.drewN m) (HO1.out.kept (grown_trans HA.out.2 (grown_trans G7.out (draw_kept m))) (.inl rfl)) (HB.out.kept (grown_trans GR.out (grown_trans G7.out (draw_kept m)))) HD.out)
      clear ho7 hg7 K2 K3 K4 K5 KA
      repeat (first
        | (refine mix_no1 rfl rfl (fun K hK => ?_); go_simp; refine hK _ _ ?_; clear hK K)
        | (refine mix_rd1 rfl rfl (fun K hK => ?_); apply Exists.intro; refine ⟨fun W hW => ?_, ?_⟩; (have f7 := K7 W hW; have fa := KA7 W hW; go_simp; rfl); (go_simp; refine hK _ _ ?_; clear hK K)))
      refine mix_call rfl rfl 16 #[.slice (some ⟨g, 0, none⟩) d.length cap, .slice av d.length cv] (fun W => by go_simp) ?_
      rintro W ⟨m8, rfl⟩
      refine (HS.out m8).mono ?_
      rintro e w8 ⟨rfl, hg8⟩
      have G8 := hid_mk (grown_trans (draw_kept m8) hg8)
      refine ⟨_, rfl, at0 w8 (fun W => w8.grownBy W none), ⟨0, rfl⟩, shut_at0 draw_kept, fun _ h => grown_trans G8.out h, ?_⟩
      clear hg8
      repeat (first
        | (refine mix_no1 rfl rfl (fun K hK => ?_); go_simp; refine hK _ _ ?_; clear hK K)
        | (refine mix_rd1 rfl rfl (fun K hK => ?_); apply Exists.intro; refine ⟨fun W hW => ?_, ?_⟩; ( go_simp; rfl); (go_simp; refine hK _ _ ?_; clear hK K)))
      refine mix_call rfl rfl 17 #[] (fun W => by go_simp) ?_
      rintro W ⟨m9, rfl⟩
      refine (knows_any (w8.drewN m9)).mono ?_
      rintro e w9 ⟨rfl, hg9⟩
      have G9 := hid_mk (grown_trans (draw_kept m9) hg9)
      refine ⟨_, rfl, at0 w9 (fun W => w9.grownBy W none), ⟨0, rfl⟩, shut_at0 draw_kept, fun _ h => grown_trans G9.out h, ?_⟩
      clear hg9
      repeat (first
        | (refine mix_no1 rfl rfl (fun K hK => ?_); go_simp; refine hK _ _ ?_; clear hK K)
        | (refine mix_rd1 rfl rfl (fun K hK => ?_); apply Exists.intro; refine ⟨fun W hW => ?_, ?_⟩; ( go_simp; rfl); (go_simp; refine hK _ _ ?_; clear hK K)))
      refine mix_nil ?_
      rintro W ⟨m10, rfl⟩
      go_wp2_with fail
      go_ret
      exact ⟨rfl, grown_trans GR.out (grown_trans G7.out (grown_trans G8.out (grown_trans G9.out (draw_kept m10))))⟩

end Go.Proofs.Ytppnmhdmpgdieaa
