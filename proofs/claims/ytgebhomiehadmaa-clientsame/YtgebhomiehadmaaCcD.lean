/- client: made, looks, lastID; within, mayBe. -/
import Derived.Test.YtgebhomiehadmaaCcC
namespace Go.Proofs.Ytgebhomiehadmaa
open Go.RowKit Go.Maps
set_option linter.unusedVariables false
set_option linter.unusedSimpArgs false
set_option maxRecDepth 100000

theorem wrap_in {n : Int} (h : -9223372036854775808 ≤ n ∧ n ≤ 9223372036854775807) : IntKind.i64.wrap n = n := by rw [IntKind.wrap_i64]; omega
theorem made_any {w : World} {B b : Nat} {V : CV} {g : Cli} (h : IsC w B b V g) : Calls Try.prog 37 #[.pointer (some ⟨b, 0, none⟩)] w fun e w' => e = .returned (.bool true) ∧ w' = w := by
  have c0 := h.c 0 rfl
  have h0 : 0 < g.id := by have := h.ok.id0; omega
  clear h
  generalize g.id = m at *
  go_enter Try.func37, Try.ntmps37
  go_wp2
  go_ret
  exact ⟨ret_bool (by first | rfl | (simp; omega)), rfl⟩
theorem made_no {w : World} {p : Value} (h : NoC w p) : Calls Try.prog 37 #[p] w fun e w' => e = .returned (.bool false) ∧ w' = w := by
  rcases h with rfl | ⟨b, rfl, c0⟩
  · go_enter Try.func37, Try.ntmps37
    go_wp2
    go_ret
    exact ⟨rfl, rfl⟩
  · go_enter Try.func37, Try.ntmps37
    go_wp2
    go_ret
    exact ⟨rfl, rfl⟩
theorem busy_no {w : World} {p : Value} (h : NoC w p) : Calls Try.prog 15 #[p] w fun e w' => e = .returned (.bool false) ∧ w' = w := by
  have HM := hid_mk h
  clear h
  go_enter Try.func15, Try.ntmps15
  go_wp2_with (go_at_call 37; refine (made_no HM.out).mono ?_; rintro e w' ⟨rfl, hw⟩; rw [hw]; clear hw)
  go_ret
  exact ⟨rfl, rfl⟩
theorem busy_any {w : World} {B b : Nat} {V : CV} {g : Cli} (h : IsC w B b V g) : Calls Try.prog 15 #[.pointer (some ⟨b, 0, none⟩)] w fun e w' => e = .returned (.bool (decide (g.st ≠ 0))) ∧ w' = w := by
  have HM := hid_mk (made_any h)
  have c7 := h.c 7 rfl
  clear h
  generalize g.st = m at *
  go_enter Try.func15, Try.ntmps15
  go_wp2_with (go_at_call 37; refine HM.out.mono ?_; rintro e w' ⟨rfl, hw⟩; rw [hw]; clear hw)
  go_ret
  exact ⟨ret_bool (by rw [Bool.eq_iff_iff]; simp), rfl⟩
theorem session_no {w : World} {p : Value} (h : NoC w p) : Calls Try.prog 22 #[p] w fun e w' => e = .returned (.int .i64 0) ∧ w' = w := by
  have HM := hid_mk h
  clear h
  go_enter Try.func22, Try.ntmps22
  go_wp2_with (go_at_call 37; refine (made_no HM.out).mono ?_; rintro e w' ⟨rfl, hw⟩; rw [hw]; clear hw)
  go_ret
  exact ⟨rfl, rfl⟩
theorem session_any {w : World} {B b : Nat} {V : CV} {g : Cli} (h : IsC w B b V g) : Calls Try.prog 22 #[.pointer (some ⟨b, 0, none⟩)] w fun e w' => e = .returned (.int .i64 g.se) ∧ w' = w := by
  have HM := hid_mk (made_any h)
  have c4 := h.c 4 rfl
  clear h
  generalize g.se = m at *
  go_enter Try.func22, Try.ntmps22
  go_wp2_with (go_at_call 37; refine HM.out.mono ?_; rintro e w' ⟨rfl, hw⟩; rw [hw]; clear hw)
  go_ret
  exact ⟨rfl, rfl⟩
theorem seq_no {w : World} {p : Value} (h : NoC w p) : Calls Try.prog 23 #[p] w fun e w' => e = .returned (.int .i64 0) ∧ w' = w := by
  have HM := hid_mk h
  clear h
  go_enter Try.func23, Try.ntmps23
  go_wp2_with (go_at_call 37; refine (made_no HM.out).mono ?_; rintro e w' ⟨rfl, hw⟩; rw [hw]; clear hw)
  go_ret
  exact ⟨rfl, rfl⟩
theorem seq_any {w : World} {B b : Nat} {V : CV} {g : Cli} (h : IsC w B b V g) : Calls Try.prog 23 #[.pointer (some ⟨b, 0, none⟩)] w fun e w' => e = .returned (.int .i64 g.sq) ∧ w' = w := by
  have HM := hid_mk (made_any h)
  have c5 := h.c 5 rfl
  clear h
  generalize g.sq = m at *
  go_enter Try.func23, Try.ntmps23
  go_wp2_with (go_at_call 37; refine HM.out.mono ?_; rintro e w' ⟨rfl, hw⟩; rw [hw]; clear hw)
  go_ret
  exact ⟨rfl, rfl⟩
theorem tries_no {w : World} {p : Value} (h : NoC w p) : Calls Try.prog 24 #[p] w fun e w' => e = .returned (.int .i64 0) ∧ w' = w := by
  have HM := hid_mk h
  clear h
  go_enter Try.func24, Try.ntmps24
  go_wp2_with (go_at_call 37; refine (made_no HM.out).mono ?_; rintro e w' ⟨rfl, hw⟩; rw [hw]; clear hw)
  go_ret
  exact ⟨rfl, rfl⟩
theorem tries_any {w : World} {B b : Nat} {V : CV} {g : Cli} (h : IsC w B b V g) : Calls Try.prog 24 #[.pointer (some ⟨b, 0, none⟩)] w fun e w' => e = .returned (.int .i64 g.tr) ∧ w' = w := by
  have HM := hid_mk (made_any h)
  have c6 := h.c 6 rfl
  clear h
  generalize g.tr = m at *
  go_enter Try.func24, Try.ntmps24
  go_wp2_with (go_at_call 37; refine HM.out.mono ?_; rintro e w' ⟨rfl, hw⟩; rw [hw]; clear hw)
  go_ret
  exact ⟨rfl, rfl⟩
/-- lastID: of two cells alone. -/
theorem lastID_cells {w : World} {b : Nat} {i t : Int} (c0 : w.cell? ⟨b, 0, none⟩ = some (.int .i64 i)) (c6 : w.cell? ⟨b, 6, none⟩ = some (.int .i64 t)) (h0 : 0 ≤ i) (h1 : i ≤ 1000) (h2 : 0 ≤ t) (h3 : t ≤ 1400000000000) :
    Calls Try.prog 40 #[.pointer (some ⟨b, 0, none⟩)] w fun e w' => e = .returned (.int .i64 (i * 1000000 + t)) ∧ ∃ nq, w' = w.drewN nq := by
  have e1 : IntKind.i64.wrap (i * 1000000) = i * 1000000 := wrap_in (by omega)
  have e2 : IntKind.i64.wrap (i * 1000000 + t) = i * 1000000 + t := wrap_in (by omega)
  go_enter Try.func40, Try.ntmps40
  go_wp2
  go_quiet (fail)
  go_wp2
  go_ret
  exact ⟨ret_int (by first | rfl | (simp only [e1, e2])), _, rfl⟩
theorem lastID_any {w : World} {B b : Nat} {V : CV} {g : Cli} (h : IsC w B b V g) (hf : g.tr ≤ 1400000000000) : Calls Try.prog 40 #[.pointer (some ⟨b, 0, none⟩)] w fun e w' => e = .returned (.int .i64 (lastI g)) ∧ ∃ nq, w' = w.drewN nq :=
  lastID_cells (h.c 0 rfl) (h.c 6 rfl) (by have := h.ok.id0; omega) h.ok.id1 h.ok.tr hf
theorem within_any (n a b : Int) (w : World) : Calls Try.prog 25 #[.int .i64 n, .int .i64 a, .int .i64 b] w fun e w' => e = .returned (.bool (decide (a ≤ n) && decide (n ≤ b))) ∧ w' = w := by
  by_cases h : a ≤ n
  · go_enter Try.func25, Try.ntmps25
    go_wp2
    go_ret
    exact ⟨ret_bool (by simp [h]), rfl⟩
  · go_enter Try.func25, Try.ntmps25
    go_wp2
    go_ret
    exact ⟨ret_bool (by rw [decide_eq_false (show ¬ a ≤ n by omega)]; rfl), rfl⟩
end Go.Proofs.Ytgebhomiehadmaa
