/- vote: VoteAnswers, VoteOrder: the walks. -/
import Derived.Test.YtgplhgogjcgmeaaVtC
import Derived.Test.YtgplhgogjcgmeaaVtI
namespace Go.Proofs.Ytgplhgogjcgmeaa
open Go.RowKit Go.Maps
set_option linter.unusedVariables false
set_option linter.unusedSimpArgs false
set_option maxRecDepth 100000

theorem up_total (a0 a1 b0 b1 : Int) : (upB a0 a1 b0 b1 || upB b0 b1 a0 a1) = true := by
  unfold upB; rw [Bool.or_eq_true, decide_eq_true_iff, decide_eq_true_iff]; omega
theorem up_trans (a0 a1 b0 b1 c0 c1 : Int) : upB a0 a1 b0 b1 = true → upB b0 b1 c0 c1 = true → upB a0 a1 c0 c1 = true := by
  unfold upB; rw [decide_eq_true_iff, decide_eq_true_iff, decide_eq_true_iff]; omega
theorem up_same (a0 a1 b0 b1 : Int) : (upB a0 a1 b0 b1 && upB b0 b1 a0 a1) = decide (a0 = b0 ∧ a1 = b1) := by
  unfold upB; rw [Bool.eq_iff_iff, Bool.and_eq_true, decide_eq_true_iff, decide_eq_true_iff, decide_eq_true_iff]; omega
set_option maxHeartbeats 1000000 in
theorem voteOrder_walk (a0 a1 b0 b1 c0 c1 : Int) (w : World) : Calls Try.prog 7 #[.agg #[.int .i64 a0, .int .i64 a1], .agg #[.int .i64 b0, .int .i64 b1], .agg #[.int .i64 c0, .int .i64 c1]] w fun e w' => e = .returned (.bool true) ∧ w.grownBy w' none := by
  have HT := hid_mk (up_total a0 a1 b0 b1)
  have HR := hid_mk (up_trans a0 a1 b0 b1 c0 c1)
  have HS := hid_mk (up_same a0 a1 b0 b1)
  have H1 := hid_mk (fun W => upto_any a0 a1 b0 b1 W)
  have H2 := hid_mk (fun W => upto_any b0 b1 a0 a1 W)
  have H3 := hid_mk (fun W => upto_any b0 b1 c0 c1 W)
  have H4 := hid_mk (fun W => upto_any a0 a1 c0 c1 W)
  generalize upB a0 a1 b0 b1 = ab at *
  generalize upB b0 b1 a0 a1 = ba at *
  generalize upB b0 b1 c0 c1 = bc at *
  generalize upB a0 a1 c0 c1 = ac at *
  have HE : Hid ((Value.agg #[.int .i64 a0, .int .i64 a1] = Value.agg #[.int .i64 b0, .int .i64 b1]) ↔ (ab && ba) = true) := hid_mk (by rw [HS.out]; simp)
  go_enter Try.func7, Try.ntmps7
  go_wp2_with fail
  refine (H1.out _).mono ?_
  rintro e w' ⟨rfl, hw⟩
  rw [hw]; clear hw
  go_wp2_with fail
  refine (H2.out _).mono ?_
  rintro e w' ⟨rfl, hw⟩
  rw [hw]; clear hw
  go_wp2_with fail
  refine (H3.out _).mono ?_
  rintro e w' ⟨rfl, hw⟩
  rw [hw]; clear hw
  go_wp2_with fail
  refine (H4.out _).mono ?_
  rintro e w' ⟨rfl, hw⟩
  rw [hw]; clear hw
  clear H1 H2 H3 H4
  have HH : Hid ((ab = true ∧ ba = true ∧ a0 = b0 ∧ a1 = b1 ∧ (bc = true → ac = true)) ∨ (ab = true ∧ ba = false ∧ ¬ (a0 = b0 ∧ a1 = b1) ∧ (bc = true → ac = true)) ∨ (ab = false ∧ ba = true ∧ ¬ (a0 = b0 ∧ a1 = b1))) := hid_mk (by
    have h1 := HT.out; have h2 := HR.out; have h3 := HS.out
    cases ab <;> cases ba <;> simp_all)
  clear HT HR HS HE
  have hq := eq46
  rcases HH.out with ⟨rfl, rfl, rfl, rfl, hbc⟩ | ⟨rfl, rfl, hne, hbc⟩ | ⟨rfl, rfl, hne⟩
  · have hde : decide (a0 = a0 ∧ a1 = a1) = true := by simp
    have hq' := fun W => (eq46 a0 a1 a0 a1 W).trans (by rw [hde])
    clear HH hq hde
    cases bc
    · clear hbc
      go_wp2_with (go_at_call 15; refine (knows_any _).mono ?_; rintro e w2 ⟨rfl, hg⟩; have HG := hid_mk hg; clear hg)
      go_ret
      exact ⟨rfl, grown_trans (ga (ga (ga (grown_refl _ _) _) _) _) HG.out⟩
    · obtain rfl := hbc rfl
      clear hbc
      go_wp2_with (go_at_call 15; refine (knows_any _).mono ?_; rintro e w2 ⟨rfl, hg⟩; have HG := hid_mk hg; clear hg)
      go_ret
      exact ⟨rfl, grown_trans (ga (ga (ga (grown_refl _ _) _) _) _) HG.out⟩
  · have hde : decide (a0 = b0 ∧ a1 = b1) = false := decide_eq_false hne
    have hq' := fun W => (eq46 a0 a1 b0 b1 W).trans (by rw [hde])
    clear HH hq hde hne
    cases bc
    · clear hbc
      go_wp2_with (go_at_call 15; refine (knows_any _).mono ?_; rintro e w2 ⟨rfl, hg⟩; have HG := hid_mk hg; clear hg)
      go_ret
      exact ⟨rfl, grown_trans (ga (ga (ga (grown_refl _ _) _) _) _) HG.out⟩
    · obtain rfl := hbc rfl
      clear hbc
      go_wp2_with (go_at_call 15; refine (knows_any _).mono ?_; rintro e w2 ⟨rfl, hg⟩; have HG := hid_mk hg; clear hg)
      go_ret
      exact ⟨rfl, grown_trans (ga (ga (ga (grown_refl _ _) _) _) _) HG.out⟩
  · have hde : decide (a0 = b0 ∧ a1 = b1) = false := decide_eq_false hne
    have hq' := fun W => (eq46 a0 a1 b0 b1 W).trans (by rw [hde])
    clear HH hq hde hne
    go_wp2_with (go_at_call 15; refine (knows_any _).mono ?_; rintro e w2 ⟨rfl, hg⟩; have HG := hid_mk hg; clear hg)
    go_ret
    exact ⟨rfl, grown_trans (ga (ga (ga (grown_refl _ _) _) _) _) HG.out⟩
end Go.Proofs.Ytgplhgogjcgmeaa
