/- client: Do. -/
import Derived.Test.YtgebhomiehadmaaCcI
namespace Go.Proofs.Ytgebhomiehadmaa
open Go.RowKit Go.Maps
set_option linter.unusedVariables false
set_option linter.unusedSimpArgs false
set_option maxRecDepth 100000

theorem do_no {w : World} {p : Value} (h : NoC w p) (o : Ord) (v : Value) : Calls Try.prog 16 #[p, .agg #[.int .i64 o.kd, .int .i64 o.fr, .int .i64 o.mo, v]] w fun e w' => e = .returned (.int .i64 1) ∧ w.grownBy w' none := by
  have HG := hid_mk (World.grownBy_alloc w (.cells #[.int .i64 o.kd, .int .i64 o.fr, .int .i64 o.mo, v] 42) none)
  have HM := hid_mk (h.kept HG.out)
  clear h
  go_enter Try.func16, Try.ntmps16
  go_wp2_with (go_at_call 37; refine (made_no HM.out).mono ?_; rintro e w' ⟨rfl, hw⟩; rw [hw]; clear hw)
  go_ret
  exact ⟨rfl, HG.out⟩
theorem doE_bad {g : Cli} {o : Ord} (h : mayB o = false) : doE g o = 1 ∧ doG g o = g := by
  have : doE g o = 1 := by unfold doE; rw [if_pos h]
  exact ⟨this, by unfold doG; rw [this]; rfl⟩
theorem doE_busy {g : Cli} {o : Ord} (h : mayB o = true) (h1 : g.st ≠ 0) : doE g o = 31 ∧ doG g o = g := by
  have : doE g o = 31 := by unfold doE; rw [if_neg (by simp [h]), if_pos h1]
  exact ⟨this, by unfold doG; rw [this]; rfl⟩
theorem doE_sess {g : Cli} {o : Ord} (h : mayB o = true) (h1 : g.st = 0) (h2 : o.kd = 2 ∧ g.se = 0) : doE g o = 40 ∧ doG g o = g := by
  have : doE g o = 40 := by unfold doE; rw [if_neg (by simp [h]), if_neg (by simp [h1]), if_pos h2]
  exact ⟨this, by unfold doG; rw [this]; rfl⟩
theorem doE_ok {g : Cli} {o : Ord} (h : mayB o = true) (h1 : g.st = 0) (h2 : ¬ (o.kd = 2 ∧ g.se = 0)) : doE g o = 0 ∧ doG g o = begG g o := by
  have : doE g o = 0 := by unfold doE; rw [if_neg (by simp [h]), if_neg (by simp [h1]), if_neg h2]
  exact ⟨this, by unfold doG; rw [if_pos this]⟩
set_option maxHeartbeats 4000000 in
theorem do_any {w : World} {B b : Nat} {V : CV} {g : Cli} (h : IsC w B b V g) (hf : Fit g 1380000000000) (o : Ord) (v : Value) (hv : Byt w v o.b) (hl : o.b.length ≤ 140737488355328) : Calls Try.prog 16 #[.pointer (some ⟨b, 0, none⟩), .agg #[.int .i64 o.kd, .int .i64 o.fr, .int .i64 o.mo, v]] w fun e w' => e = .returned (.int .i64 (doE g o)) ∧ CP w w' B b V g (doG g o) := by
  obtain ⟨va, vc, rfl⟩ := hv.len
  have g1 := World.grownBy_alloc w (.cells #[.int .i64 o.kd, .int .i64 o.fr, .int .i64 o.mo, .slice va o.b.length vc] 42) none
  have H1 := hid_mk (And.intro g1 (And.intro (blk_alloc w #[.int .i64 o.kd, .int .i64 o.fr, .int .i64 o.mo, .slice va o.b.length vc] 42) (hv.kept g1)))
  have HN := hid_mk (And.intro h (And.intro hf hl))
  have HM := hid_mk (made_any (h.kept g1))
  have HB := hid_mk (mayBe_any o va vc (w.alloc (.cells #[.int .i64 o.kd, .int .i64 o.fr, .int .i64 o.mo, .slice va o.b.length vc] 42)))
  have q0 := (blk4 H1.out.2.1).1
  have q1 := (blk4 H1.out.2.1).2.1
  have q2 := (blk4 H1.out.2.1).2.2.1
  have q3 := (blk4 H1.out.2.1).2.2.2.1
  clear g1 h hf hv hl
  cases hm : mayB o
  · obtain ⟨e1, e2⟩ := doE_bad (g := g) hm
    rw [e1, e2]
    rw [hm] at HB
    clear hm e1 e2
    go_enter Try.func16, Try.ntmps16
    go_wp2_with (first | (go_at_call 37; refine HM.out.mono ?_; rintro e w' ⟨rfl, hw⟩; rw [hw]; clear hw) | (go_at_call 38; refine HB.out.mono ?_; rintro e w2 ⟨rfl, hg⟩; have H2 := hid_mk hg; clear hg q0 q1 q2 q3))
    go_ret
    exact ⟨rfl, CP.same HN.out.1 (grown_trans H1.out.1 H2.out)⟩
  · rw [hm] at HB
    by_cases hs : g.st = 0
    · by_cases h2 : o.kd = 2 ∧ g.se = 0
      · obtain ⟨e1, e2⟩ := doE_sess hm hs h2
        rw [e1, e2]
        have HX := hid_mk (And.intro hs h2)
        clear hm e1 e2 hs h2
        go_enter Try.func16, Try.ntmps16
        go_wp2_with (first | (go_at_call 37; refine HM.out.mono ?_; rintro e w' ⟨rfl, hw⟩; rw [hw]; clear hw) | (go_at_call 38; refine HB.out.mono ?_; rintro e w2 ⟨rfl, hg⟩; have H2 := hid_mk hg; clear hg q0 q1 q2 q3; have c0 := (blk4 (H1.out.2.1.kept H2.out (by simp))).1; rw [HX.out.2.1] at c0; have c4 := ((HN.out.1.kept H1.out.1).kept H2.out).c 4 (x := .int .i64 0) (by rw [← HX.out.2.2]; rfl)) | (go_at_call 15; refine (busy_any ((HN.out.1.kept H1.out.1).kept H2.out)).mono ?_; rintro e w' ⟨rfl, hw⟩; rw [hw]; clear hw; rw [show decide (g.st ≠ 0) = false from by rw [HX.out.1]; rfl]))
        go_ret
        exact ⟨rfl, CP.same HN.out.1 (grown_trans H1.out.1 H2.out)⟩
      · obtain ⟨e1, e2⟩ := doE_ok hm hs h2
        rw [e1, e2]
        have HX := hid_mk (And.intro hs h2)
        clear hm e1 e2 hs
        by_cases hk : o.kd = 2
        · have hk' : (o.kd == 2) = true := by simpa using hk
          have hs' : (g.se == 0) = false := by simp; exact fun e => h2 ⟨hk, e⟩
          clear hk h2
          go_enter Try.func16, Try.ntmps16
          go_wp2_with (first | (go_at_call 37; refine HM.out.mono ?_; rintro e w' ⟨rfl, hw⟩; rw [hw]; clear hw) | (go_at_call 38; refine HB.out.mono ?_; rintro e w2 ⟨rfl, hg⟩; have H2 := hid_mk hg; clear hg q0 q1 q2 q3; obtain ⟨c0, c1, c2, c3, _⟩ := blk4 (H1.out.2.1.kept H2.out (by simp)); have c4 := ((HN.out.1.kept H1.out.1).kept H2.out).c 4 rfl) | (go_at_call 15; refine (busy_any ((HN.out.1.kept H1.out.1).kept H2.out)).mono ?_; rintro e w' ⟨rfl, hw⟩; rw [hw]; clear hw; rw [show decide (g.st ≠ 0) = false from by rw [HX.out.1]; rfl]))
          refine (begin_any ((HN.out.1.kept H1.out.1).kept H2.out) HN.out.2.1 o _ (H1.out.2.2.kept H2.out) HN.out.2.2).mono ?_
          rintro e w5 ⟨rfl, V5, h5⟩
          have H5 := hid_mk h5
          clear h5 c0 c1 c2 c3 c4
          go_wp2
          go_ret
          exact ⟨rfl, V5, CPv.pre (grown_trans H1.out.1 H2.out) H5.out⟩
        · have hk' : (o.kd == 2) = false := by simpa using hk
          clear hk h2
          go_enter Try.func16, Try.ntmps16
          go_wp2_with (first | (go_at_call 37; refine HM.out.mono ?_; rintro e w' ⟨rfl, hw⟩; rw [hw]; clear hw) | (go_at_call 38; refine HB.out.mono ?_; rintro e w2 ⟨rfl, hg⟩; have H2 := hid_mk hg; clear hg q0 q1 q2 q3; obtain ⟨c0, c1, c2, c3, _⟩ := blk4 (H1.out.2.1.kept H2.out (by simp)); have c4 := ((HN.out.1.kept H1.out.1).kept H2.out).c 4 rfl) | (go_at_call 15; refine (busy_any ((HN.out.1.kept H1.out.1).kept H2.out)).mono ?_; rintro e w' ⟨rfl, hw⟩; rw [hw]; clear hw; rw [show decide (g.st ≠ 0) = false from by rw [HX.out.1]; rfl]))
          refine (begin_any ((HN.out.1.kept H1.out.1).kept H2.out) HN.out.2.1 o _ (H1.out.2.2.kept H2.out) HN.out.2.2).mono ?_
          rintro e w5 ⟨rfl, V5, h5⟩
          have H5 := hid_mk h5
          clear h5 c0 c1 c2 c3 c4
          go_wp2
          go_ret
          exact ⟨rfl, V5, CPv.pre (grown_trans H1.out.1 H2.out) H5.out⟩
    · obtain ⟨e1, e2⟩ := doE_busy hm hs
      rw [e1, e2]
      have HX := hid_mk hs
      clear hm e1 e2 hs
      go_enter Try.func16, Try.ntmps16
      go_wp2_with (first | (go_at_call 37; refine HM.out.mono ?_; rintro e w' ⟨rfl, hw⟩; rw [hw]; clear hw) | (go_at_call 38; refine HB.out.mono ?_; rintro e w2 ⟨rfl, hg⟩; have H2 := hid_mk hg; clear hg q0 q1 q2 q3) | (go_at_call 15; refine (busy_any ((HN.out.1.kept H1.out.1).kept H2.out)).mono ?_; rintro e w' ⟨rfl, hw⟩; rw [hw]; clear hw; rw [show decide (g.st ≠ 0) = true from decide_eq_true HX.out]))
      go_ret
      exact ⟨rfl, CP.same HN.out.1 (grown_trans H1.out.1 H2.out)⟩
end Go.Proofs.Ytgebhomiehadmaa
