/- history: hadTime, mayBe, turn, counts; Compare, Or. -/
import Derived.Test.YthbfjpaimnhpgabHB
namespace Go.Proofs.Ythbfjpaimnhpgab
open Go.RowKit Go.Maps
set_option linter.unusedVariables false
set_option linter.unusedSimpArgs false
set_option maxRecDepth 100000

/-- A slice, whatever it is. -/
def IsSl (v : Value) : Prop := ∃ a n c, v = .slice a n c
theorem InC.sl {w : World} {x : CE} (h : InC w x) : IsSl x.vd ∧ IsSl x.vr := by
  obtain ⟨a, c, e⟩ := h.d.len
  obtain ⟨a', c', e'⟩ := h.r.len
  exact ⟨⟨_, _, _, e⟩, ⟨_, _, _, e'⟩⟩
def turnI (k : Int) : Int := if k = 2 then 1 else 0
def calV (x : CE) : Value := .agg (calC x).toArray
set_option maxHeartbeats 2000000 in
theorem time_lit (c b e k at0 : Int) (an : Bool) (fr mo nu st : Int) (da : Option Addr) (dn dc : Nat) (ra : Option Addr) (rn rc : Nat) (w : World) : Calls Try.prog 24 #[.agg #[.int .i64 c, .int .i64 b, .int .i64 e, .int .i64 k, .int .i64 at0, .bool an, .int .i64 fr, .int .i64 mo, .int .i64 nu, .int .i64 st, .slice da dn dc, .slice ra rn rc]] w fun e' w' => e' = .returned (.bool (decide (0 ≤ b) && decide (b < 1099511627776) && (!an || decide (b < e) && decide (e < 1099511627776)))) ∧ w.grownBy w' none := by
  have HG := hid_mk (World.grownBy_alloc w (.cells #[.int .i64 c, .int .i64 b, .int .i64 e, .int .i64 k, .int .i64 at0, .bool an, .int .i64 fr, .int .i64 mo, .int .i64 nu, .int .i64 st, .slice da dn dc, .slice ra rn rc] 42) none)
  obtain ⟨c0, c1, c2, c3, c4, c5, c6, c7, c8, c9, c10, c11, hf⟩ := blk12 (blk_alloc w #[.int .i64 c, .int .i64 b, .int .i64 e, .int .i64 k, .int .i64 at0, .bool an, .int .i64 fr, .int .i64 mo, .int .i64 nu, .int .i64 st, .slice da dn dc, .slice ra rn rc] 42)
  go_enter Try.func24, Try.ntmps24
  go_upto_region 1 with fail
  generalize (w.alloc (.cells #[.int .i64 c, .int .i64 b, .int .i64 e, .int .i64 k, .int .i64 at0, .bool an, .int .i64 fr, .int .i64 mo, .int .i64 nu, .int .i64 st, .slice da dn dc, .slice ra rn rc] 42)) = w1 at *
  go_wp2
  all_goals (go_ret; refine ⟨ret_bool ?_, HG.out⟩)
  all_goals (first | rfl |  (rw [Bool.eq_iff_iff]; simp; omega) | (simp_all; done) | (simp_all; rw [show (k == 1) = false from beq_eq_false_iff_ne.2 (by assumption), Bool.false_or]; rfl))
set_option maxHeartbeats 2000000 in
theorem mayBe_lit (c b e k at0 : Int) (an : Bool) (fr mo nu st : Int) (da : Option Addr) (dn dc : Nat) (ra : Option Addr) (rn rc : Nat) (w : World) : Calls Try.prog 17 #[.agg #[.int .i64 c, .int .i64 b, .int .i64 e, .int .i64 k, .int .i64 at0, .bool an, .int .i64 fr, .int .i64 mo, .int .i64 nu, .int .i64 st, .slice da dn dc, .slice ra rn rc]] w fun e' w' => e' = .returned (.bool (decide (0 ≤ c) && decide (1 ≤ k) && decide (k ≤ 3) && decide (0 ≤ at0) && decide (at0 ≤ 1099511627776) && (decide (0 ≤ b) && decide (b < 1099511627776) && (!an || decide (b < e) && decide (e < 1099511627776))))) ∧ w.grownBy w' none := by
  have HG := hid_mk (World.grownBy_alloc w (.cells #[.int .i64 c, .int .i64 b, .int .i64 e, .int .i64 k, .int .i64 at0, .bool an, .int .i64 fr, .int .i64 mo, .int .i64 nu, .int .i64 st, .slice da dn dc, .slice ra rn rc] 42) none)
  obtain ⟨c0, c1, c2, c3, c4, c5, c6, c7, c8, c9, c10, c11, hf⟩ := blk12 (blk_alloc w #[.int .i64 c, .int .i64 b, .int .i64 e, .int .i64 k, .int .i64 at0, .bool an, .int .i64 fr, .int .i64 mo, .int .i64 nu, .int .i64 st, .slice da dn dc, .slice ra rn rc] 42)
  go_enter Try.func17, Try.ntmps17
  go_upto_region 1 with fail
  generalize (w.alloc (.cells #[.int .i64 c, .int .i64 b, .int .i64 e, .int .i64 k, .int .i64 at0, .bool an, .int .i64 fr, .int .i64 mo, .int .i64 nu, .int .i64 st, .slice da dn dc, .slice ra rn rc] 42)) = w1 at *
  generalize ht : (decide (0 ≤ b) && decide (b < 1099511627776) && (!an || decide (b < e) && decide (e < 1099511627776))) = tb
  have HT := hid_mk ht
  clear ht
  go_wp2_with (go_at_call 24; refine (time_lit c b e k at0 an fr mo nu st da dn dc ra rn rc _).mono ?_; rintro e' w' ⟨rfl, HZ⟩; rw [HT.out]; replace HZ := hid_mk HZ)
  all_goals (go_ret; refine ⟨ret_bool ?_, by first | exact HG.out | exact grown_trans HG.out HZ.out⟩)
  all_goals (first | rfl | (rw [← HT.out, Bool.eq_iff_iff]; simp; omega) | (rw [← HT.out]; simp_all; done) | (rw [Bool.eq_iff_iff]; simp; omega) | (simp_all; done))
def cmpI (x y : Int) : Int := if x < y then -1 else if x > y then 1 else 0
theorem nan_any (n : Int) (w : World) : Calls Try.prog 38 #[.int .i64 n] w fun e w' => e = .returned (.bool false) ∧ w' = w := by
  go_enter Try.func38, Try.ntmps38
  go_wp2
  go_ret
  exact ⟨ret_bool (by simp), rfl⟩
set_option maxHeartbeats 2000000 in
theorem compare_any (x y : Int) (w : World) : Calls Try.prog 29 #[.int .i64 x, .int .i64 y] w fun e w' => e = .returned (.int .i64 (cmpI x y)) ∧ w' = w := by
  go_enter Try.func29, Try.ntmps29
  go_wp2_with (go_at_call 38; refine (nan_any _ _).mono ?_; rintro e w' ⟨rfl, hw⟩; rw [hw]; clear hw)
  all_goals (go_ret; refine ⟨ret_int ?_, rfl⟩; unfold cmpI; (first | (rw [if_pos (by omega)]; done) | (rw [if_neg (by omega), if_pos (by omega)]; done) | (rw [if_neg (by omega), if_neg (by omega)]; done)))
end Go.Proofs.Ythbfjpaimnhpgab
