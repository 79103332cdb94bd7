/- May an entry be? The program's and the document's. -/
import Derived.Test.YtcijjepleedecaaWEnt
namespace Go.Proofs.Ytcijjepleedecaa.W
open Go.RowKit Go.Maps
set_option linter.unusedVariables false
set_option linter.unusedSimpArgs false

theorem rightE_out {x : Ent} (h : ¬ (1 ≤ x.term ∧ x.term < 1099511627776 ∧ 1 ≤ x.index ∧ x.index < 1099511627776)) : rightE x = false := by
  unfold rightE; rw [decide_eq_false h]; rfl
theorem rightE_in {x : Ent} (h : 1 ≤ x.term ∧ x.term < 1099511627776 ∧ 1 ≤ x.index ∧ x.index < 1099511627776) : rightE x = rightD x.kind x.data := by
  unfold rightE; rw [decide_eq_true h]; rfl
theorem rightD_1 (d : List UInt8) : rightD 1 d = decide (d.length = 0) := rfl
theorem rightD_2 (d : List UInt8) : rightD 2 d = decide (d.length ≤ 4096) := rfl
theorem rightD_3 (d : List UInt8) : rightD 3 d = getOk d := rfl
theorem rightD_no {k : Int} (d : List UInt8) (h1 : k ≠ 1) (h2 : k ≠ 2) (h3 : k ≠ 3) : rightD k d = false := by unfold rightD; rw [if_neg h1, if_neg h2, if_neg h3]

set_option maxHeartbeats 1000000 in
theorem rightEntry_any (x : Ent) (dv : Value) (w : World) (h : Byt w dv x.data) (hl : x.data.length ≤ 140737488355328) :
    Calls Try.prog 87 #[entV x dv] w fun e w' => e = .returned (.bool (rightE x)) ∧ w.grownBy w' none := by
  obtain ⟨av, cv, rfl⟩ := h.len
  have HB := hid_mk h
  clear h
  unfold entV
  obtain ⟨t, i, k, d⟩ := x
  simp only at HB hl ⊢
  by_cases ht : t < 1
  · have HE := hid_mk (rightE_out (x := ⟨t, i, k, d⟩) (by simp; omega))
    go_enter Try.func87, Try.ntmps87
    go_wp2
    go_ret
    exact ⟨ret_bool HE.out.symm, World.grownBy_alloc _ _ _⟩
  · by_cases ht2 : 1099511627776 ≤ t
    · have HE := hid_mk (rightE_out (x := ⟨t, i, k, d⟩) (by simp; omega))
      go_enter Try.func87, Try.ntmps87
      go_wp2
      go_ret
      exact ⟨ret_bool HE.out.symm, World.grownBy_alloc _ _ _⟩
    · by_cases hi : i < 1
      · have HE := hid_mk (rightE_out (x := ⟨t, i, k, d⟩) (by simp; omega))
        go_enter Try.func87, Try.ntmps87
        go_wp2
        go_ret
        exact ⟨ret_bool HE.out.symm, World.grownBy_alloc _ _ _⟩
      · by_cases hi2 : 1099511627775 < i
        · have HE := hid_mk (rightE_out (x := ⟨t, i, k, d⟩) (by simp; omega))
          go_enter Try.func87, Try.ntmps87
          go_wp2
          go_ret
          exact ⟨ret_bool HE.out.symm, World.grownBy_alloc _ _ _⟩
        · have HE := hid_mk (rightE_in (x := ⟨t, i, k, d⟩) (by simp; omega))
          simp only at HE
          by_cases k1 : k = 1
          · subst k1
            rw [rightD_1] at HE
            have hdec : ((d.length : Int) == 0) = decide (d.length = 0) := by
              by_cases h0 : d.length = 0
              · simp [h0]
              · rw [decide_eq_false h0, beq_eq_false_iff_ne]; omega
            generalize decide (d.length = 0) = B at *
            go_enter Try.func87, Try.ntmps87
            go_wp2
            go_ret
            exact ⟨ret_bool (by first | exact HE.out.symm | exact hdec.trans HE.out.symm), World.grownBy_alloc _ _ _⟩
          · by_cases k2 : k = 2
            · subst k2
              rw [rightD_2] at HE
              have hdec : decide ((d.length : Int) ≤ 4096) = decide (d.length ≤ 4096) := by
                by_cases h0 : d.length ≤ 4096
                · rw [decide_eq_true h0, decide_eq_true (by omega)]
                · rw [decide_eq_false h0, decide_eq_false (by omega)]
              have HDC := hid_mk hdec
              clear hdec
              go_enter Try.func87, Try.ntmps87
              go_wp2
              go_ret
              exact ⟨ret_bool (by first | exact HE.out.symm | exact HDC.out.trans HE.out.symm | (rw [HE.out]; simp)), World.grownBy_alloc _ _ _⟩
            · by_cases k3 : k = 3
              · subst k3
                rw [rightD_3] at HE
                have HG := hid_mk (fun o => getServers_any (.slice av d.length cv) d (w.alloc o) (HB.out.kept (World.grownBy_alloc _ _ _)) hl)
                cases hok : getOk d with
                | true =>
                  rw [hok] at HE
                  rw [(got_ok hok).2] at HG
                  generalize gotL d = gl at *
                  clear hok
                  go_enter Try.func87, Try.ntmps87
                  go_wp2_with (go_at_call 36; refine (HG.out _).mono ?_; rintro e w1 ⟨a1, c1, rfl, _, hg1⟩)
                  go_ret
                  exact ⟨ret_bool HE.out.symm, grown_trans (World.grownBy_alloc _ _ _) hg1⟩
                | false =>
                  rw [hok] at HE
                  rw [(got_bad hok).2] at HG
                  generalize gotL d = gl at *
                  clear hok
                  go_enter Try.func87, Try.ntmps87
                  go_wp2_with (go_at_call 36; refine (HG.out _).mono ?_; rintro e w1 ⟨a1, c1, rfl, _, hg1⟩)
                  go_ret
                  exact ⟨ret_bool HE.out.symm, grown_trans (World.grownBy_alloc _ _ _) hg1⟩
              · rw [rightD_no d k1 k2 k3] at HE
                have e1 : (k == 1) = false := by simpa using k1
                have e2 : (k == 2) = false := by simpa using k2
                have e3 : (k == 3) = false := by simpa using k3
                go_enter Try.func87, Try.ntmps87
                go_wp2
                go_ret
                exact ⟨ret_bool HE.out.symm, World.grownBy_alloc _ _ _⟩

set_option maxHeartbeats 1000000 in
theorem rrightEntry_any (x : Ent) (dv : Value) (w : World) (h : Byt w dv x.data) (hl : x.data.length ≤ 140737488355328) :
    Calls Try.prog 67 #[entV x dv] w fun e w' => e = .returned (.bool (rightE x)) ∧ w.grownBy w' none := by
  obtain ⟨av, cv, rfl⟩ := h.len
  have HB := hid_mk h
  clear h
  unfold entV
  obtain ⟨t, i, k, d⟩ := x
  simp only at HB hl ⊢
  by_cases ht : t < 1
  · have HE := hid_mk (rightE_out (x := ⟨t, i, k, d⟩) (by simp; omega))
    go_enter Try.func67, Try.ntmps67
    go_wp2
    go_ret
    exact ⟨ret_bool HE.out.symm, World.grownBy_alloc _ _ _⟩
  · by_cases ht2 : 1099511627776 ≤ t
    · have HE := hid_mk (rightE_out (x := ⟨t, i, k, d⟩) (by simp; omega))
      go_enter Try.func67, Try.ntmps67
      go_wp2
      go_ret
      exact ⟨ret_bool HE.out.symm, World.grownBy_alloc _ _ _⟩
    · by_cases hi : i < 1
      · have HE := hid_mk (rightE_out (x := ⟨t, i, k, d⟩) (by simp; omega))
        go_enter Try.func67, Try.ntmps67
        go_wp2
        go_ret
        exact ⟨ret_bool HE.out.symm, World.grownBy_alloc _ _ _⟩
      · by_cases hi2 : 1099511627776 ≤ i
        · have HE := hid_mk (rightE_out (x := ⟨t, i, k, d⟩) (by simp; omega))
          go_enter Try.func67, Try.ntmps67
          go_wp2
          go_ret
          exact ⟨ret_bool HE.out.symm, World.grownBy_alloc _ _ _⟩
        · have HE := hid_mk (rightE_in (x := ⟨t, i, k, d⟩) (by simp; omega))
          simp only at HE
          by_cases k1 : k = 1
          · subst k1
            rw [rightD_1] at HE
            have hdec : ((d.length : Int) == 0) = decide (d.length = 0) := by
              by_cases h0 : d.length = 0
              · simp [h0]
              · rw [decide_eq_false h0, beq_eq_false_iff_ne]; omega
            generalize decide (d.length = 0) = B at *
            go_enter Try.func67, Try.ntmps67
            go_wp2
            go_ret
            exact ⟨ret_bool (by first | exact HE.out.symm | exact hdec.trans HE.out.symm), World.grownBy_alloc _ _ _⟩
          · by_cases k2 : k = 2
            · subst k2
              rw [rightD_2] at HE
              have hdec : decide ((d.length : Int) ≤ 4096) = decide (d.length ≤ 4096) := by
                by_cases h0 : d.length ≤ 4096
                · rw [decide_eq_true h0, decide_eq_true (by omega)]
                · rw [decide_eq_false h0, decide_eq_false (by omega)]
              have HDC := hid_mk hdec
              clear hdec
              go_enter Try.func67, Try.ntmps67
              go_wp2
              go_ret
              exact ⟨ret_bool (by first | exact HE.out.symm | exact HDC.out.trans HE.out.symm | (rw [HE.out]; simp)), World.grownBy_alloc _ _ _⟩
            · by_cases k3 : k = 3
              · subst k3
                rw [rightD_3] at HE
                have HG := hid_mk (fun o => rgetServers_any (.slice av d.length cv) d (w.alloc o) (HB.out.kept (World.grownBy_alloc _ _ _)) hl)
                cases hok : getOk d with
                | true =>
                  rw [hok] at HE
                  rw [(got_ok hok).2] at HG
                  generalize gotL d = gl at *
                  clear hok
                  go_enter Try.func67, Try.ntmps67
                  go_wp2_with (go_at_call 40; refine (HG.out _).mono ?_; rintro e w1 ⟨a1, c1, rfl, _, hg1⟩)
                  go_ret
                  exact ⟨ret_bool HE.out.symm, grown_trans (World.grownBy_alloc _ _ _) hg1⟩
                | false =>
                  rw [hok] at HE
                  rw [(got_bad hok).2] at HG
                  generalize gotL d = gl at *
                  clear hok
                  go_enter Try.func67, Try.ntmps67
                  go_wp2_with (go_at_call 40; refine (HG.out _).mono ?_; rintro e w1 ⟨a1, c1, rfl, _, hg1⟩)
                  go_ret
                  exact ⟨ret_bool HE.out.symm, grown_trans (World.grownBy_alloc _ _ _) hg1⟩
              · rw [rightD_no d k1 k2 k3] at HE
                have e1 : (k == 1) = false := by simpa using k1
                have e2 : (k == 2) = false := by simpa using k2
                have e3 : (k == 3) = false := by simpa using k3
                go_enter Try.func67, Try.ntmps67
                go_wp2
                go_ret
                exact ⟨ret_bool HE.out.symm, World.grownBy_alloc _ _ _⟩

end Go.Proofs.Ytcijjepleedecaa.W
