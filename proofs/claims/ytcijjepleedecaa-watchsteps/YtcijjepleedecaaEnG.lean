/- Right, maySend, Last; place, from, termAt. -/
import Derived.Test.YtcijjepleedecaaEnF
namespace Go.Proofs.Ytcijjepleedecaa.W
open Go.RowKit Go.Maps
set_option linter.unusedVariables false
set_option linter.unusedSimpArgs false
set_option maxRecDepth 100000
attribute [local go_sem] Oper.semAt_some

theorem rightV_no {b t : Int} {es : List Ent} (h : ¬ (0 ≤ b ∧ b ≤ 549755813888 ∧ 0 ≤ t ∧ t < 1099511627776 ∧ es.length ≤ 4096)) : rightV b t es = false := by unfold rightV; rw [decide_eq_false h]; rfl
theorem rightV_in {b t : Int} {es : List Ent} (h : 0 ≤ b ∧ b ≤ 549755813888 ∧ 0 ≤ t ∧ t < 1099511627776 ∧ es.length ≤ 4096) : rightV b t es = goB b t es := by unfold rightV; rw [decide_eq_true h]; rfl
/-- Sent entries that may be. -/
def sendV (b t : Int) (es : List Ent) : Bool := decide (0 ≤ b ∧ 0 ≤ t ∧ es.length ≤ 8) && goB b t es
theorem sendV_no {b t : Int} {es : List Ent} (h : ¬ (0 ≤ b ∧ 0 ≤ t ∧ es.length ≤ 8)) : sendV b t es = false := by unfold sendV; rw [decide_eq_false h]; rfl
theorem sendV_in {b t : Int} {es : List Ent} (h : 0 ≤ b ∧ 0 ≤ t ∧ es.length ≤ 8) : sendV b t es = goB b t es := by unfold sendV; rw [decide_eq_true h]; rfl
theorem sendV_spec {b t : Int} {es : List Ent} (h : sendV b t es = true) : 0 ≤ b ∧ 0 ≤ t ∧ es.length ≤ 8 ∧ goB b t es = true := by
  unfold sendV at h
  simp only [Bool.and_eq_true, decide_eq_true_eq] at h
  exact ⟨h.1.1, h.1.2.1, h.1.2.2, h.2⟩
/-- An int of the program's. -/
def I64 (b : Int) : Prop := -9223372036854775808 ≤ b ∧ b ≤ 9223372036854775807

set_option maxHeartbeats 4000000 in
theorem rightV_any (b t : Int) (lv : Value) (es : List Ent) (w : World) (h : EntsR w lv es) (hlen : es.length ≤ 10000000000000) (hbb : I64 b) : Calls Try.prog 48 #[viewV b t lv] w fun e w' => e = .returned (.bool (rightV b t es)) ∧ w.grownBy w' none := by
  obtain ⟨a, c, rfl⟩ := h.len
  have HE := hid_mk (And.intro h hbb)
  clear h hbb
  have HV : Hid (viewV b t (.slice a es.length c) = .agg #[.int .i64 b, .int .i64 t, .slice a es.length c]) := hid_mk rfl
  unfold viewV
  have HA := hid_mk (And.intro (VB.new w b t (.slice a es.length c)) (World.grownBy_alloc w (.cells #[.int .i64 b, .int .i64 t, .slice a es.length c] 26) none))
  obtain ⟨m, hm⟩ : ∃ m, m = es.length := ⟨_, rfl⟩
  by_cases hc : 0 ≤ b ∧ b ≤ 549755813888 ∧ 0 ≤ t ∧ t < 1099511627776 ∧ es.length ≤ 4096
  · have HR := hid_mk (rightV_in hc)
    obtain ⟨c1, c2, c3, c4, c5⟩ := hc
    have c6 : (es.length : Int) ≤ 4096 := by omega
    go_enter Try.func48, Try.ntmps48
    go_upto_region 1 with fail
    generalize w.alloc (.cells #[.int .i64 b, .int .i64 t, .slice a es.length c] 26) = w1 at *
    obtain ⟨v0, v1, v2⟩ := HA.out.1.cells
    clear hm
    go_wp2_with fail
    refine (goesOn_any b t _ es w1 (HE.out.1.kept HA.out.2) hlen HE.out.2).mono ?_
    rintro e w2 ⟨rfl, hg⟩
    have HG := hid_mk (grown_trans HA.out.2 hg)
    clear hg v0 v1 v2
    obtain ⟨R, hR⟩ : ∃ R, R = goB b t es := ⟨_, rfl⟩
    rw [← hR] at HR ⊢
    clear hR
    go_wp2
    go_ret
    exact ⟨ret_bool HR.out.symm, HG.out⟩
  · have HR := hid_mk (rightV_no hc)
    have HQ := hid_mk HA.out.2
    have hcc : b < 0 ∨ (0 ≤ b ∧ 549755813888 < b) ∨ (0 ≤ b ∧ b ≤ 549755813888 ∧ t < 0) ∨ (0 ≤ b ∧ b ≤ 549755813888 ∧ 0 ≤ t ∧ 1099511627776 ≤ t) ∨ (0 ≤ b ∧ b ≤ 549755813888 ∧ 0 ≤ t ∧ t < 1099511627776 ∧ 4096 < es.length) := by omega
    clear hc
    rcases hcc with c1 | ⟨c1, c2⟩ | ⟨c1, c2, c3⟩ | ⟨c1, c2, c3, c4⟩ | ⟨c1, c2, c3, c4, c5⟩
    all_goals
      clear hm
      try have c6 : ¬ (es.length : Int) ≤ 4096 := by omega
      try have c7 : ¬ b ≤ 549755813888 := by omega
      go_enter Try.func48, Try.ntmps48
      go_upto_region 1 with fail
      generalize w.alloc (.cells #[.int .i64 b, .int .i64 t, .slice a es.length c] 26) = w1 at *
      obtain ⟨v0, v1, v2⟩ := HA.out.1.cells
      go_wp2
      go_ret
      exact ⟨ret_bool HR.out.symm, HQ.out⟩
end Go.Proofs.Ytcijjepleedecaa.W
