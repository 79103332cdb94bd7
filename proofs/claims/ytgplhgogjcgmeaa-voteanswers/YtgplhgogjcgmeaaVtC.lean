/- vote: the document's Answer. -/
import Derived.Test.YtgplhgogjcgmeaaVtB
namespace Go.Proofs.Ytgplhgogjcgmeaa
open Go.RowKit Go.Maps
set_option linter.unusedVariables false
set_option linter.unusedSimpArgs false
set_option maxRecDepth 100000

set_option maxHeartbeats 1000000 in
theorem ranswer_any (m : Meg) (a : Ask) (w : World) : Calls Try.prog 12 #[m.v, a.v] w fun e w' => e = .returned (ansV (ans m a)) ∧ w.grownBy w' none := by
  by_cases h1 : m.fr = true ∧ m.t < a.t
  · rw [ans_silent h1]
    obtain ⟨mt, f, i, l, fr⟩ := m
    obtain ⟨at', af, ai, al⟩ := a
    obtain ⟨rfl, h2⟩ := h1
    unfold ansV Meg.v Ask.v
    simp only at *
    go_enter Try.func12, Try.ntmps12
    go_wp2
    refine bodyPost_ret (v := .tuple #[.agg #[.int .i64 mt, .int .i64 f, .int .i64 i, .int .i64 l, .bool true], .bool false, .bool true]) (by simp [results, Try.results12, go_sem]) rfl ?_
    exact ⟨rfl, by repeat (first | exact grown_refl _ _ | apply ga)⟩
  · by_cases h2 : a.t < m.t
    · rw [ans_low h2]
      obtain ⟨mt, f, i, l, fr⟩ := m
      obtain ⟨at', af, ai, al⟩ := a
      simp only at h2
      have h3 : ¬ mt < at' := by omega
      clear h1
      unfold ansV Meg.v Ask.v
      simp only
      cases fr
      · go_enter Try.func12, Try.ntmps12
        go_wp2
        refine bodyPost_ret (v := .tuple #[.agg #[.int .i64 mt, .int .i64 f, .int .i64 i, .int .i64 l, .bool false], .bool false, .bool false]) (by simp [results, Try.results12, go_sem]) rfl ?_
        exact ⟨rfl, by repeat (first | exact grown_refl _ _ | apply ga)⟩
      · go_enter Try.func12, Try.ntmps12
        go_wp2
        refine bodyPost_ret (v := .tuple #[.agg #[.int .i64 mt, .int .i64 f, .int .i64 i, .int .i64 l, .bool true], .bool false, .bool false]) (by simp [results, Try.results12, go_sem]) rfl ?_
        exact ⟨rfl, by repeat (first | exact grown_refl _ _ | apply ga)⟩
    · have key : Hid (((m.joined a.t).may a = true → ans m a = ({ m.joined a.t with f := a.f }, true, false)) ∧ ((m.joined a.t).may a = false → ans m a = (m.joined a.t, false, false))) := hid_mk ⟨ans_yes h1 h2, ans_no h1 h2⟩
      have hguard : Hid (m.fr = true → ¬ m.t < a.t) := hid_mk (fun h k => h1 ⟨h, k⟩)
      clear h1
      have HU := hid_mk (fun W => rupto_any a.i a.l m.i m.l W)
      by_cases ht : m.t < a.t
      · have hj : m.joined a.t = { m with t := a.t, f := -1 } := by unfold Meg.joined; rw [if_pos ht]
        have hm : (m.joined a.t).may a = upB a.i a.l m.i m.l := by rw [hj]; unfold Meg.may; simp
        rw [hm, hj] at key
        clear hm hj
        obtain ⟨mt, f, i, l, fr⟩ := m
        obtain ⟨at', af, ai, al⟩ := a
        simp only at h2 HU hguard key ht
        have hfr : fr = false := by cases fr; rfl; exact absurd ht (hguard.out rfl)
        subst hfr
        generalize upB ai al i l = b at *
        unfold Meg.v Ask.v
        simp only
        cases b
        · rw [key.out.2 rfl]
          unfold ansV Meg.v
          simp only
          clear key hguard
          go_enter Try.func12, Try.ntmps12
          go_wp2_with (go_at_call 14; refine (HU.out _).mono ?_; rintro e w' ⟨rfl, hw⟩; rw [hw]; clear hw)
          refine bodyPost_ret (v := .tuple #[.agg #[.int .i64 at', .int .i64 (-1), .int .i64 i, .int .i64 l, .bool false], .bool false, .bool false]) (by simp [results, Try.results12, go_sem]) rfl ?_
          exact ⟨rfl, by repeat (first | exact grown_refl _ _ | apply ga)⟩
        · rw [key.out.1 rfl]
          unfold ansV Meg.v
          simp only
          clear key hguard
          go_enter Try.func12, Try.ntmps12
          go_wp2_with (go_at_call 14; refine (HU.out _).mono ?_; rintro e w' ⟨rfl, hw⟩; rw [hw]; clear hw)
          refine bodyPost_ret (v := .tuple #[.agg #[.int .i64 at', .int .i64 af, .int .i64 i, .int .i64 l, .bool false], .bool true, .bool false]) (by simp [results, Try.results12, go_sem]) rfl ?_
          exact ⟨rfl, by repeat (first | exact grown_refl _ _ | apply ga)⟩
      · have hj : m.joined a.t = m := by unfold Meg.joined; rw [if_neg ht]
        rw [hj] at key
        have hk : Hid (∀ u, upB a.i a.l m.i m.l = u → ((m.f = -1 ∨ m.f = a.f) → m.may a = u) ∧ (¬ m.f = -1 → ¬ m.f = a.f → m.may a = false)) := hid_mk (by
          intro u hu
          subst hu
          constructor
          · rintro (h | h) <;> unfold Meg.may <;> simp [h]
          · intro h k; unfold Meg.may; simp [h, k])
        clear hj
        obtain ⟨mt, f, i, l, fr⟩ := m
        obtain ⟨at', af, ai, al⟩ := a
        simp only at h2 HU hguard key ht hk
        clear hguard
        have hk := hid_mk (hk.out _ rfl)
        generalize upB ai al i l = b at *
        by_cases hf : f = -1
        · have hk := hk.out.1 (.inl hf)
          subst hf
          rw [hk] at key
          clear hk
          unfold Meg.v Ask.v
          simp only
          cases b
          · rw [key.out.2 rfl]
            unfold ansV Meg.v
            simp only
            clear key
            cases fr
            all_goals
              go_enter Try.func12, Try.ntmps12
              go_wp2_with (go_at_call 14; refine (HU.out _).mono ?_; rintro e w' ⟨rfl, hw⟩; rw [hw]; clear hw)
              first
                | (refine bodyPost_ret (v := .tuple #[.agg #[.int .i64 mt, .int .i64 (-1), .int .i64 i, .int .i64 l, .bool false], .bool false, .bool false]) ?hr rfl ?hp; case hr => (simp [results, Try.results12, go_sem]; done))
                | (refine bodyPost_ret (v := .tuple #[.agg #[.int .i64 mt, .int .i64 (-1), .int .i64 i, .int .i64 l, .bool true], .bool false, .bool false]) ?hr rfl ?hp; case hr => (simp [results, Try.results12, go_sem]; done))
              case hp => exact ⟨rfl, by repeat (first | exact grown_refl _ _ | apply ga)⟩
          · rw [key.out.1 rfl]
            unfold ansV Meg.v
            simp only
            clear key
            cases fr
            all_goals
              go_enter Try.func12, Try.ntmps12
              go_wp2_with (go_at_call 14; refine (HU.out _).mono ?_; rintro e w' ⟨rfl, hw⟩; rw [hw]; clear hw)
              first
                | (refine bodyPost_ret (v := .tuple #[.agg #[.int .i64 mt, .int .i64 af, .int .i64 i, .int .i64 l, .bool false], .bool true, .bool false]) ?hr rfl ?hp; case hr => (simp [results, Try.results12, go_sem]; done))
                | (refine bodyPost_ret (v := .tuple #[.agg #[.int .i64 mt, .int .i64 af, .int .i64 i, .int .i64 l, .bool true], .bool true, .bool false]) ?hr rfl ?hp; case hr => (simp [results, Try.results12, go_sem]; done))
              case hp => exact ⟨rfl, by repeat (first | exact grown_refl _ _ | apply ga)⟩
        · have hf1 : (f == -1) = false := by simp [hf]
          by_cases hg : f = af
          · have hk := hk.out.1 (.inr hg)
            subst hg
            rw [hk] at key
            clear hk
            unfold Meg.v Ask.v
            simp only
            cases b
            · rw [key.out.2 rfl]
              unfold ansV Meg.v
              simp only
              clear key
              cases fr
              all_goals
                go_enter Try.func12, Try.ntmps12
                go_wp2_with (go_at_call 14; refine (HU.out _).mono ?_; rintro e w' ⟨rfl, hw⟩; rw [hw]; clear hw)
                first
                  | (refine bodyPost_ret (v := .tuple #[.agg #[.int .i64 mt, .int .i64 f, .int .i64 i, .int .i64 l, .bool false], .bool false, .bool false]) ?hr rfl ?hp; case hr => (simp [results, Try.results12, go_sem]; done))
                  | (refine bodyPost_ret (v := .tuple #[.agg #[.int .i64 mt, .int .i64 f, .int .i64 i, .int .i64 l, .bool true], .bool false, .bool false]) ?hr rfl ?hp; case hr => (simp [results, Try.results12, go_sem]; done))
                case hp => exact ⟨rfl, by repeat (first | exact grown_refl _ _ | apply ga)⟩
            · rw [key.out.1 rfl]
              unfold ansV Meg.v
              simp only
              clear key
              cases fr
              all_goals
                go_enter Try.func12, Try.ntmps12
                go_wp2_with (go_at_call 14; refine (HU.out _).mono ?_; rintro e w' ⟨rfl, hw⟩; rw [hw]; clear hw)
                first
                  | (refine bodyPost_ret (v := .tuple #[.agg #[.int .i64 mt, .int .i64 f, .int .i64 i, .int .i64 l, .bool false], .bool true, .bool false]) ?hr rfl ?hp; case hr => (simp [results, Try.results12, go_sem]; done))
                  | (refine bodyPost_ret (v := .tuple #[.agg #[.int .i64 mt, .int .i64 f, .int .i64 i, .int .i64 l, .bool true], .bool true, .bool false]) ?hr rfl ?hp; case hr => (simp [results, Try.results12, go_sem]; done))
                case hp => exact ⟨rfl, by repeat (first | exact grown_refl _ _ | apply ga)⟩
          · have hk := hk.out.2 hf hg
            have hg1 : (f == af) = false := by simp [hg]
            rw [hk] at key
            clear hk HU
            rw [key.out.2 rfl]
            unfold ansV Meg.v Ask.v
            simp only
            clear key
            cases fr
            all_goals
              go_enter Try.func12, Try.ntmps12
              go_wp2
              first
                | (refine bodyPost_ret (v := .tuple #[.agg #[.int .i64 mt, .int .i64 f, .int .i64 i, .int .i64 l, .bool false], .bool false, .bool false]) ?hr rfl ?hp; case hr => (simp [results, Try.results12, go_sem]; done))
                | (refine bodyPost_ret (v := .tuple #[.agg #[.int .i64 mt, .int .i64 f, .int .i64 i, .int .i64 l, .bool true], .bool false, .bool false]) ?hr rfl ?hp; case hr => (simp [results, Try.results12, go_sem]; done))
              case hp => exact ⟨rfl, by repeat (first | exact grown_refl _ _ | apply ga)⟩
end Go.Proofs.Ytgplhgogjcgmeaa
