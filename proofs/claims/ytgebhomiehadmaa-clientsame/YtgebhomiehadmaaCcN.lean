/- client: Heard, Tick, Calls. -/
import Derived.Test.YtgebhomiehadmaaCcM
namespace Go.Proofs.Ytgebhomiehadmaa
open Go.RowKit Go.Maps
set_option linter.unusedVariables false
set_option linter.unusedSimpArgs false
set_option maxRecDepth 100000

theorem heard_no {w : World} {p : Value} (h : NoC w p) (a : Ans) (v : Value) : Calls Try.prog 18 #[p, .agg (ansL a v)] w fun e w' => e = .returned (.int .i64 1) ∧ w.grownBy w' none := by
  have HG := hid_mk (World.grownBy_alloc w (.cells (ansL a v) 44) none)
  have HM := hid_mk (h.kept HG.out)
  clear h
  unfold ansL at *
  go_enter Try.func18, Try.ntmps18
  go_wp2_with (go_at_call 37; refine (made_no HM.out).mono ?_; rintro e w' ⟨rfl, hw⟩; rw [hw]; clear hw)
  go_ret
  exact ⟨rfl, HG.out⟩
theorem heardE_ok {g : Cli} {a : Ans} (h : g.st = 1 ∧ a.id = lastI g) : heardE g a = 0 ∧ heardG g a = hearG g a := by
  have : heardE g a = 0 := by unfold heardE; rw [if_pos h]
  exact ⟨this, by unfold heardG; rw [if_pos this]⟩
theorem heardE_bad {g : Cli} {a : Ans} (h : ¬ (g.st = 1 ∧ a.id = lastI g)) : heardE g a = 3 ∧ heardG g a = g := by
  have : heardE g a = 3 := by unfold heardE; rw [if_neg h]
  exact ⟨this, by unfold heardG; rw [this]; rfl⟩
set_option maxHeartbeats 4000000 in
theorem heard_any {w : World} {B b : Nat} {V : CV} {g : Cli} (h : IsC w B b V g) (hf : Fit g 1380000000000) (a : Ans) (v : Value) (R : List RV) (hv : AnsIn w v R a) : Calls Try.prog 18 #[.pointer (some ⟨b, 0, none⟩), .agg (ansL a v)] w fun e w' => e = .returned (.int .i64 (heardE g a)) ∧ CP w w' B b V g (heardG g a) := by
  have hg1 := World.grownBy_alloc w (.cells (ansL a v) 44) none
  have H1 := hid_mk (And.intro hg1 (And.intro (blk_alloc w (ansL a v) 44) (hv.kept hg1)))
  have HN := hid_mk (And.intro h hf)
  have HM := hid_mk (made_any (h.kept hg1))
  obtain ⟨va, vc, hva⟩ := hv.own.len
  clear hg1 h hf hv
  subst hva
  obtain ⟨A, hA⟩ : ∃ A, A = ansL a (.slice va R.length vc) := ⟨_, rfl⟩
  have HA := hid_mk hA
  rw [← hA] at H1 HM ⊢
  have hA2 : A = #[.int .i64 a.id, .int .i64 a.e, .int .i64 a.se, .int .i64 a.nu, .slice va R.length vc, .int .i64 a.le] := hA
  clear hA
  obtain ⟨EE, hEE⟩ : ∃ E, E = heardE g a := ⟨_, rfl⟩
  obtain ⟨GG, hGG⟩ : ∃ G, G = heardG g a := ⟨_, rfl⟩
  rw [← hEE, ← hGG]
  have HE := hid_mk (And.intro hEE hGG)
  clear hEE hGG
  have HH := hid_mk (fun (W : World) (hW : w.grownBy W none) (hw : AnsIn W (.slice va R.length vc) R a) => (show Calls Try.prog 41 #[.pointer (some ⟨b, 0, none⟩), .agg A] W fun e w' => e = .returned (.tuple #[]) ∧ CP W w' B b V g (hearG g a) from by rw [HA.out]; exact hear_any (HN.out.1.kept hW) HN.out.2 a _ R hw))
  subst hA2
  have HC := hid_mk (fun (W : World) (hW : (w.alloc (.cells #[.int .i64 a.id, .int .i64 a.e, .int .i64 a.se, .int .i64 a.nu, .slice va R.length vc, .int .i64 a.le] 44)).grownBy W none) => And.intro (blk6 (H1.out.2.1.kept hW (by simp))) (And.intro (((HN.out.1.kept H1.out.1).kept hW).c 7 rfl) (lastID_any ((HN.out.1.kept H1.out.1).kept hW) (by have := HN.out.2.tr; omega))))
  by_cases hs : g.st = 1
  · have hs' : (g.st != 1) = false := by simp [hs]
    by_cases hi : a.id = lastI g
    · have hi' : (a.id != lastI g) = false := by simp [hi]
      obtain ⟨e1, e2⟩ := heardE_ok ⟨hs, hi⟩
      rw [e1, e2] at HE
      clear hs hi e1 e2
      go_enter Try.func18, Try.ntmps18
      go_upto_region 3 with (go_at_call 37; refine HM.out.mono ?_; rintro e w' ⟨rfl, hw⟩; rw [hw]; clear hw)
      generalize (w.alloc (.cells #[.int .i64 a.id, .int .i64 a.e, .int .i64 a.se, .int .i64 a.nu, .slice va R.length vc, .int .i64 a.le] 44)) = w1 at *
      generalize w.heap.size = q at *
      refine wp_region_mix [(0, true), (1, true), (2, true), (3, true), (4, true), (5, true), (6, true), (7, true), (8, true), (9, true), (10, true), (11, true), (12, true)] (at0 w1 (fun W => w1.grownBy W none)) (by kernel_rfl) (by kernel_rfl) rfl (by kernel_rfl) (shut_at0 (fun m => grown_drewN _ m none)) ⟨1, rfl⟩ ?_
      repeat (refine mix_rd1 rfl rfl (fun K hK => ?_); apply Exists.intro; refine ⟨fun W hW => ?_, ?_⟩; (obtain ⟨⟨d0, d1, d2, d3, d4, d5, df⟩, c7, _⟩ := HC.out W hW; go_simp; rfl); (go_simp; refine hK _ _ ?_; clear hK K))
      refine mix_rdcall rfl rfl 40 #[.pointer (some ⟨b, 0, none⟩)] (.int .i64 (lastI g)) (fun W => by go_simp) (fun W hW => (HC.out W hW).2.2) ?_
      go_simp
      repeat (refine mix_rd1 rfl rfl (fun K hK => ?_); apply Exists.intro; refine ⟨fun W hW => ?_, ?_⟩; (obtain ⟨⟨d0, d1, d2, d3, d4, d5, df⟩, c7, _⟩ := HC.out W hW; go_simp; rfl); (go_simp; refine hK _ _ ?_; clear hK K))
      refine mix_nil ?_
      rintro W9 ⟨m9, rfl⟩
      have G9 := hid_mk (grown_drewN w1 m9 none)
      generalize w1.drewN m9 = w9 at *
      obtain ⟨⟨d0, d1, d2, d3, d4, d5, df⟩, c7, _⟩ := HC.out w9 G9.out
      clear c7
      go_wp2_with fail
      refine (HH.out w9 (grown_trans H1.out.1 G9.out) (H1.out.2.2.kept G9.out)).mono ?_
      rintro e w5 ⟨rfl, V5, h5⟩
      have H5 := hid_mk h5
      clear h5 d0 d1 d2 d3 d4 d5 df
      go_wp2
      go_ret
      rw [HE.out.1, HE.out.2]
      exact ⟨rfl, V5, CPv.pre (grown_trans H1.out.1 G9.out) H5.out⟩
    · have hi' : (a.id != lastI g) = true := by simpa using hi
      obtain ⟨e1, e2⟩ := heardE_bad (fun h => hi h.2)
      rw [e1, e2] at HE
      clear hs hi e1 e2
      go_enter Try.func18, Try.ntmps18
      go_upto_region 3 with (go_at_call 37; refine HM.out.mono ?_; rintro e w' ⟨rfl, hw⟩; rw [hw]; clear hw)
      generalize (w.alloc (.cells #[.int .i64 a.id, .int .i64 a.e, .int .i64 a.se, .int .i64 a.nu, .slice va R.length vc, .int .i64 a.le] 44)) = w1 at *
      generalize w.heap.size = q at *
      refine wp_region_mix [(0, true), (1, true), (2, true), (3, true), (4, true), (5, true), (6, true), (7, true), (8, true), (9, true), (10, true), (11, true), (12, true)] (at0 w1 (fun W => w1.grownBy W none)) (by kernel_rfl) (by kernel_rfl) rfl (by kernel_rfl) (shut_at0 (fun m => grown_drewN _ m none)) ⟨1, rfl⟩ ?_
      repeat (refine mix_rd1 rfl rfl (fun K hK => ?_); apply Exists.intro; refine ⟨fun W hW => ?_, ?_⟩; (obtain ⟨⟨d0, d1, d2, d3, d4, d5, df⟩, c7, _⟩ := HC.out W hW; go_simp; rfl); (go_simp; refine hK _ _ ?_; clear hK K))
      refine mix_rdcall rfl rfl 40 #[.pointer (some ⟨b, 0, none⟩)] (.int .i64 (lastI g)) (fun W => by go_simp) (fun W hW => (HC.out W hW).2.2) ?_
      go_simp
      repeat (refine mix_rd1 rfl rfl (fun K hK => ?_); apply Exists.intro; refine ⟨fun W hW => ?_, ?_⟩; (obtain ⟨⟨d0, d1, d2, d3, d4, d5, df⟩, c7, _⟩ := HC.out W hW; go_simp; rfl); (go_simp; refine hK _ _ ?_; clear hK K))
      refine mix_nil ?_
      rintro W9 ⟨m9, rfl⟩
      have G9 := hid_mk (grown_drewN w1 m9 none)
      generalize w1.drewN m9 = w9 at *
      obtain ⟨⟨d0, d1, d2, d3, d4, d5, df⟩, c7, _⟩ := HC.out w9 G9.out
      clear c7
      go_wp2_with fail
      go_ret
      rw [HE.out.1, HE.out.2]
      exact ⟨rfl, CP.same HN.out.1 (grown_trans H1.out.1 G9.out)⟩
  · have hs' : (g.st != 1) = true := by simpa using hs
    obtain ⟨e1, e2⟩ := heardE_bad (fun h => hs h.1)
    rw [e1, e2] at HE
    clear hs e1 e2
    go_enter Try.func18, Try.ntmps18
    go_upto_region 3 with (go_at_call 37; refine HM.out.mono ?_; rintro e w' ⟨rfl, hw⟩; rw [hw]; clear hw)
    generalize (w.alloc (.cells #[.int .i64 a.id, .int .i64 a.e, .int .i64 a.se, .int .i64 a.nu, .slice va R.length vc, .int .i64 a.le] 44)) = w1 at *
    generalize w.heap.size = q at *
    refine wp_region_mix [(0, true), (1, true), (2, true), (3, true), (4, true), (5, true), (6, true), (7, true), (8, true), (9, true), (10, true), (11, true), (12, true)] (at0 w1 (fun W => w1.grownBy W none)) (by kernel_rfl) (by kernel_rfl) rfl (by kernel_rfl) (shut_at0 (fun m => grown_drewN _ m none)) ⟨1, rfl⟩ ?_
    repeat (first | (refine mix_no1 rfl rfl (fun K hK => ?_); go_simp; refine hK _ _ ?_; clear hK K) | (refine mix_rd1 rfl rfl (fun K hK => ?_); apply Exists.intro; refine ⟨fun W hW => ?_, ?_⟩; (obtain ⟨⟨d0, d1, d2, d3, d4, d5, df⟩, c7, _⟩ := HC.out W hW; go_simp; rfl); (go_simp; refine hK _ _ ?_; clear hK K)))
    refine mix_nil ?_
    rintro W9 ⟨m9, rfl⟩
    have G9 := hid_mk (grown_drewN w1 m9 none)
    generalize w1.drewN m9 = w9 at *
    obtain ⟨⟨d0, d1, d2, d3, d4, d5, df⟩, c7, _⟩ := HC.out w9 G9.out
    clear c7
    go_wp2_with fail
    go_ret
    rw [HE.out.1, HE.out.2]
    exact ⟨rfl, CP.same HN.out.1 (grown_trans H1.out.1 G9.out)⟩
theorem tick_no {w : World} {p : Value} (h : NoC w p) : Calls Try.prog 20 #[p] w fun e w' => e = .returned (.int .i64 1) ∧ w' = w := by
  have HM := hid_mk h
  clear h
  go_enter Try.func20, Try.ntmps20
  go_wp2_with (go_at_call 37; refine (made_no HM.out).mono ?_; rintro e w' ⟨rfl, hw⟩; rw [hw]; clear hw)
  go_ret
  exact ⟨rfl, rfl⟩
theorem calls_no {w : World} {p : Value} (h : NoC w p) : Calls Try.prog 21 #[p] w fun e w' => e = .returned (.slice none 0 0) ∧ w' = w := by
  have HM := hid_mk h
  clear h
  go_enter Try.func21, Try.ntmps21
  go_wp2_with (go_at_call 37; refine (made_no HM.out).mono ?_; rintro e w' ⟨rfl, hw⟩; rw [hw]; clear hw)
  go_ret
  exact ⟨rfl, rfl⟩
set_option maxHeartbeats 2000000 in
theorem tick_any {w : World} {B b : Nat} {V : CV} {g : Cli} (h : IsC w B b V g) (hf : Fit g 1380000000000) : Calls Try.prog 20 #[.pointer (some ⟨b, 0, none⟩)] w fun e w' => e = .returned (.int .i64 0) ∧ CP w w' B b V g (tickG g) := by
  have HN := hid_mk (And.intro h hf)
  have HM := hid_mk (made_any h)
  have c7 := h.c 7 rfl
  have c12 := h.c 12 rfl
  have hfz := h.fz
  have hp0 : 0 ≤ g.ps := h.ok.ps0
  have hp1 : g.ps ≤ 1380000000000 := hf.ps
  obtain ⟨GG, hGG⟩ : ∃ G, G = tickG g := ⟨_, rfl⟩
  rw [← hGG]
  have HG := hid_mk hGG
  clear hGG
  by_cases hs : g.st = 1
  · have hs' : (g.st != 1) = false := by simp [hs]
    by_cases hp : g.pa ≤ g.ps + 1
    · have HX := hid_mk (show tickG g = askG { g with ps := g.ps + 1 } (nextP g) by unfold tickG; rw [if_pos hs, if_pos hp])
      have hI := CPv.set h 12 (.int .i64 (g.ps + 1)) { g with ps := g.ps + 1 } rfl rfl rfl rfl rfl ⟨h.ok.id0, h.ok.id1, h.ok.pa0, h.ok.pa1, h.ok.sv0, h.ok.sv1, h.ok.pl, by show 0 ≤ g.ps + 1; omega, h.ok.tr, h.ok.sq, h.ok.ob⟩
      have H1 := hid_mk hI
      clear hI h hf hs
      go_enter Try.func20, Try.ntmps20
      go_upto_region 6 with (go_at_call 37; refine HM.out.mono ?_; rintro e w' ⟨rfl, hw⟩; rw [hw]; clear hw)
      clear c7 c12 hfz
      generalize w.setCell ⟨b, 12, none⟩ (.int .i64 (g.ps + 1)) = w1 at *
      have HC := hid_mk (fun (W : World) (hW : w1.grownBy W none) => And.intro ((H1.out.cli.kept hW).c 12 rfl) ((H1.out.cli.kept hW).c 1 rfl))
      refine wp_region_mix [(0, true), (1, true), (2, true), (3, true), (4, true), (5, true), (6, true), (7, true), (8, true)] (at0 w1 (fun W => w1.grownBy W none)) (by kernel_rfl) (by kernel_rfl) rfl (by kernel_rfl) (shut_at0 (fun m => grown_drewN _ m none)) ⟨1, rfl⟩ ?_
      repeat (refine mix_rd1 rfl rfl (fun K hK => ?_); apply Exists.intro; refine ⟨fun W hW => ?_, ?_⟩; (obtain ⟨d12, d1⟩ := HC.out W hW; go_simp; rfl); (go_simp; refine hK _ _ ?_; clear hK K))
      refine mix_nil ?_
      rintro W9 ⟨m9, rfl⟩
      have G9 := hid_mk (grown_drewN w1 m9 none)
      generalize w1.drewN m9 = w9 at *
      go_wp2_with fail
      have hway : Way w9 B b V { g with ps := g.ps + 1 } 43 #[.pointer (some ⟨b, 2, none⟩)] (nextP g) := way_next (H1.out.cli.kept G9.out)
      have hfit : Fit { g with ps := g.ps + 1 } 1390000000000 := ⟨by show g.tr ≤ 1390000000000; have := HN.out.2.tr; omega, by show g.sq ≤ 1390000000000; have := HN.out.2.sq; omega, by show (g.out.length : Int) ≤ 1390000000000; have := HN.out.2.out; omega, by show g.ps + 1 ≤ 1390000000000; omega, by omega⟩
      refine (ask_any (H1.out.cli.kept G9.out) hfit 43 ent43 #[.pointer (some ⟨b, 2, none⟩)] #[] (nextP g) (nextP_lt HN.out.1.ok) (by simpa using hway)).mono ?_
      rintro e w5 ⟨rfl, V5, h5⟩
      have H5 := hid_mk (CPv.then HN.out.1 H1.out (CPv.pre G9.out h5))
      clear h5 hway hfit
      go_wp2
      go_ret
      rw [HG.out, HX.out]
      exact ⟨rfl, V5, H5.out⟩
    · have HX := hid_mk (show tickG g = { g with ps := g.ps + 1 } by unfold tickG; rw [if_pos hs, if_neg hp])
      have hI := CPv.set h 12 (.int .i64 (g.ps + 1)) { g with ps := g.ps + 1 } rfl rfl rfl rfl rfl ⟨h.ok.id0, h.ok.id1, h.ok.pa0, h.ok.pa1, h.ok.sv0, h.ok.sv1, h.ok.pl, by show 0 ≤ g.ps + 1; omega, h.ok.tr, h.ok.sq, h.ok.ob⟩
      have H1 := hid_mk hI
      clear hI h hf hs
      go_enter Try.func20, Try.ntmps20
      go_upto_region 6 with (go_at_call 37; refine HM.out.mono ?_; rintro e w' ⟨rfl, hw⟩; rw [hw]; clear hw)
      clear c7 c12 hfz
      generalize w.setCell ⟨b, 12, none⟩ (.int .i64 (g.ps + 1)) = w1 at *
      have HC := hid_mk (fun (W : World) (hW : w1.grownBy W none) => And.intro ((H1.out.cli.kept hW).c 12 rfl) ((H1.out.cli.kept hW).c 1 rfl))
      refine wp_region_mix [(0, true), (1, true), (2, true), (3, true), (4, true), (5, true), (6, true), (7, true), (8, true)] (at0 w1 (fun W => w1.grownBy W none)) (by kernel_rfl) (by kernel_rfl) rfl (by kernel_rfl) (shut_at0 (fun m => grown_drewN _ m none)) ⟨1, rfl⟩ ?_
      repeat (refine mix_rd1 rfl rfl (fun K hK => ?_); apply Exists.intro; refine ⟨fun W hW => ?_, ?_⟩; (obtain ⟨d12, d1⟩ := HC.out W hW; go_simp; rfl); (go_simp; refine hK _ _ ?_; clear hK K))
      refine mix_nil ?_
      rintro W9 ⟨m9, rfl⟩
      have G9 := hid_mk (grown_drewN w1 m9 none)
      generalize w1.drewN m9 = w9 at *
      go_wp2_with fail
      go_ret
      rw [HG.out, HX.out]
      exact ⟨rfl, V, H1.out.post G9.out⟩
  · have hs' : (g.st != 1) = true := by simpa using hs
    have HX := hid_mk (show tickG g = g by unfold tickG; rw [if_neg hs])
    clear h hf hs
    go_enter Try.func20, Try.ntmps20
    go_wp2_with (go_at_call 37; refine HM.out.mono ?_; rintro e w' ⟨rfl, hw⟩; rw [hw]; clear hw)
    go_ret
    rw [HG.out, HX.out]
    exact ⟨rfl, CP.same HN.out.1 (grown_refl _ _)⟩
/-- Calls: the row is handed over. -/
theorem calls_any {w : World} {B b : Nat} {V : CV} {g : Cli} (h : IsC w B b V g) : Calls Try.prog 21 #[.pointer (some ⟨b, 0, none⟩)] w fun e w' => e = .returned V.vc ∧ CPv w w' B b V { V with vc := .slice none 0 0, L := [] } g (callsG g) ∧ OwnK 64 w' B V.vc V.L ∧ BtK w' B V.L ∧ w.grownBy w' (some b) := by
  have HN := hid_mk h
  have HM := hid_mk (made_any h)
  have c19 := h.c 19 rfl
  have hfz := h.fz
  obtain ⟨a, c, e⟩ := h.row.len
  have HV := hid_mk e
  rw [e] at c19
  rw [e]
  clear h e
  go_enter Try.func21, Try.ntmps21
  go_wp2_with (go_at_call 37; refine HM.out.mono ?_; rintro e w' ⟨rfl, hw⟩; rw [hw]; clear hw)
  go_ret
  have hn := HN.out
  obtain ⟨k1, k2, k3, k4, k5⟩ := hn.over (grown_setCell w b 19 (.slice none 0 0))
  rw [← HV.out]
  refine ⟨rfl, ⟨⟨hn.blk.set 19 _, k1, k2, OwnK.nil _ _ _, BtK.nil _ _, k5, rfl, hn.recs, hn.low, okC_calls hn.ok⟩, Keeps.one (grown_setCell w b 19 _) (.inl rfl), fun k e => ?_⟩, k3, k4, grown_setCell w b 19 _⟩
  rcases e with (rfl | e) | e | e | e | ⟨p, hp, e⟩
  · exact .inl (.inl (.inl rfl))
  · cases e
  · exact .inl (.inr (.inl e))
  · exact .inl (.inr (.inr (.inl e)))
  · exact .inl (.inr (.inr (.inr (.inl e))))
  · cases hp
end Go.Proofs.Ytgebhomiehadmaa
