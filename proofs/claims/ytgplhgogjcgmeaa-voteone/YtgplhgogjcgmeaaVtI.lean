/- vote: pairs and servers held against one another. -/
import Derived.Test.YtgplhgogjcgmeaaVtG
import Derived.ChangeKeysEq
import Derived.Laws.StructEq
namespace Go.Proofs.Ytgplhgogjcgmeaa
open Go.RowKit Go.Maps
set_option linter.unusedVariables false
set_option linter.unusedSimpArgs false
set_option maxRecDepth 100000

theorem plain3 : Try.prog.plainKey 3 = true := by kernel_rfl
theorem plain4 : Try.prog.plainKey 4 = true := by kernel_rfl
theorem cells3 : Try.prog.cellsOf 3 = 1 := by kernel_rfl
theorem q3 (w : World) (x y : Int) : (Op.equalIn 9999 3 (.int .i64 x) (.int .i64 y)).run Try.prog w = .ok (x == y) w := run_equalIn_int (P := Try.prog) w 9998 3 .i64 .i64 x y Try.underlying3
theorem q4 (w : World) (x y : Bool) : (Op.equalIn 9999 4 (.bool x) (.bool y)).run Try.prog w = .ok (x == y) w := run_equalIn_bool (P := Try.prog) w 9998 4 x y Try.underlying4
theorem p3 {xs : Array Value} {off : Nat} {v : Value} (w : World) (h : xs[off]? = some v) : (part 3 xs off).run Try.prog w = .ok v w := run_part_plain w plain3 h
theorem p4 {xs : Array Value} {off : Nat} {v : Value} (w : World) (h : xs[off]? = some v) : (part 4 xs off).run Try.prog w = .ok v w := run_part_plain w plain4 h
theorem eq46 (a0 a1 b0 b1 : Int) (w : World) : (Op.equalIn 10000 46 (.agg #[.int .i64 a0, .int .i64 a1]) (.agg #[.int .i64 b0, .int .i64 b1])).run Try.prog w = .ok (decide (a0 = b0 ∧ a1 = b1)) w := by
  obtain ⟨i0, hi, _⟩ := info_parts info3
  rw [show (10000 : Nat) = 9999 + 1 from rfl, run_equalIn_array w 9999 _ _ Try.underlying46 hi, cells3]
  have pa0 : (part 3 #[.int .i64 a0, .int .i64 a1] 0).run Try.prog w = .ok (.int .i64 a0) w := p3 w rfl
  have pa1 : (part 3 #[.int .i64 a0, .int .i64 a1] 1).run Try.prog w = .ok (.int .i64 a1) w := p3 w rfl
  have pb0 : (part 3 #[.int .i64 b0, .int .i64 b1] 0).run Try.prog w = .ok (.int .i64 b0) w := p3 w rfl
  have pb1 : (part 3 #[.int .i64 b0, .int .i64 b1] 1).run Try.prog w = .ok (.int .i64 b1) w := p3 w rfl
  have ite1 : ∀ (b : Bool) (x y : Sem Bool), (if (!b) = true then x else y).run Try.prog w = if b then y.run Try.prog w else x.run Try.prog w := fun b x y => by cases b <;> rfl
  simp only [show List.range 2 = [0, 1] from rfl, Op.eqItems, Nat.zero_mul, Nat.one_mul, Sem.run_bind, pa0, pb0, pa1, pb1, Result.andThen_ok, q3, ite1, Sem.run_pure]
  generalize hb0 : (a0 == b0) = e0
  generalize hb1 : (a1 == b1) = e1
  cases e0 <;> cases e1 <;> simp_all
theorem fields26 : (Try.prog.fieldsOf 26).toList.map (fun f => (decide (f.name = "_"), f.type, f.offset)) = [(false, 3, 0), (false, 3, 1), (false, 3, 2), (false, 3, 3), (false, 4, 4)] := by kernel_rfl
theorem list5 {α : Type} {l : List α} (h : l.length = 5) : ∃ a b c d e, l = [a, b, c, d, e] := by
  match l, h with
  | [a, b, c, d, e], _ => exact ⟨a, b, c, d, e, rfl⟩
theorem stood26 : Try.prog.stoodInHeld 26 = false := by kernel_rfl
theorem und26 : Try.prog.underlying 26 = some (.struct (Try.prog.fieldsOf 26)) := by kernel_rfl
instance : DecidableEq Meg := fun m n => by
  obtain ⟨a, b, c, d, e⟩ := m
  obtain ⟨a', b', c', d', e'⟩ := n
  exact decidable_of_iff (a = a' ∧ b = b' ∧ c = c' ∧ d = d' ∧ e = e') (by simp)
set_option maxHeartbeats 1000000 in
theorem eq26 (m n : Meg) (w : World) : (Op.equalIn 10000 26 m.v n.v).run Try.prog w = .ok (decide (m = n)) w := by
  obtain ⟨m0, m1, m2, m3, m4⟩ := m
  obtain ⟨n0, n1, n2, n3, n4⟩ := n
  unfold Meg.v
  rw [show (10000 : Nat) = 9999 + 1 from rfl, run_equalIn_struct w 9999 26 _ _ und26 stood26]
  obtain ⟨f0, f1, f2, f3, f4, hf⟩ := list5 (l := (Try.prog.fieldsOf 26).toList) (by have := congrArg List.length fields26; simpa using this)
  have hh := fields26
  rw [hf] at hh ⊢
  simp only [List.map_cons, List.map_nil, List.cons.injEq, Prod.mk.injEq, decide_eq_false_iff_not, and_true] at hh
  obtain ⟨⟨a0, b0, c0⟩, ⟨a1, b1, c1⟩, ⟨a2, b2, c2⟩, ⟨a3, b3, c3⟩, ⟨a4, b4, c4⟩⟩ := hh
  simp only at *
  have pa := fun (k : Nat) (v : Value) (h : (#[Value.int .i64 m0, .int .i64 m1, .int .i64 m2, .int .i64 m3, .bool m4])[k]? = some v) => p3 w h
  have pb := fun (k : Nat) (v : Value) (h : (#[Value.int .i64 n0, .int .i64 n1, .int .i64 n2, .int .i64 n3, .bool n4])[k]? = some v) => p3 w h
  have pa4 := fun (k : Nat) (v : Value) (h : (#[Value.int .i64 m0, .int .i64 m1, .int .i64 m2, .int .i64 m3, .bool m4])[k]? = some v) => p4 w h
  have pb4 := fun (k : Nat) (v : Value) (h : (#[Value.int .i64 n0, .int .i64 n1, .int .i64 n2, .int .i64 n3, .bool n4])[k]? = some v) => p4 w h
  have A0 := pa 0 (.int .i64 m0) rfl
  have A1 := pa 1 (.int .i64 m1) rfl
  have A2 := pa 2 (.int .i64 m2) rfl
  have A3 := pa 3 (.int .i64 m3) rfl
  have A4 := pa4 4 (.bool m4) rfl
  have B0 := pb 0 (.int .i64 n0) rfl
  have B1 := pb 1 (.int .i64 n1) rfl
  have B2 := pb 2 (.int .i64 n2) rfl
  have B3 := pb 3 (.int .i64 n3) rfl
  have B4 := pb4 4 (.bool n4) rfl
  clear pa pb pa4 pb4
  have ite1 : ∀ (b : Bool) (x y : Sem Bool), (if (!b) = true then x else y).run Try.prog w = if b then y.run Try.prog w else x.run Try.prog w := fun b x y => by cases b <;> rfl
  simp only [Op.eqFields, a0, a1, a2, a3, a4, b0, b1, b2, b3, b4, c0, c1, c2, c3, c4, ne_eq, not_false_eq_true, if_true, Sem.run_bind, A0, A1, A2, A3, A4, B0, B1, B2, B3, B4, Result.andThen_ok, q3, q4, ite1, Sem.run_pure]
  generalize hb0 : (m0 == n0) = e0
  generalize hb1 : (m1 == n1) = e1
  generalize hb2 : (m2 == n2) = e2
  generalize hb3 : (m3 == n3) = e3
  generalize hb4 : (m4 == n4) = e4
  cases e0 <;> cases e1 <;> cases e2 <;> cases e3 <;> cases e4 <;> simp_all
end Go.Proofs.Ytgplhgogjcgmeaa
