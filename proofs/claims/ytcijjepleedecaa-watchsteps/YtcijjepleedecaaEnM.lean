/- Try. -/
import Derived.Test.YtcijjepleedecaaEMy
namespace Go.Proofs.Ytcijjepleedecaa.W
open Go.RowKit Go.Maps
set_option linter.unusedVariables false
set_option linter.unusedSimpArgs false
set_option maxRecDepth 100000
attribute [local go_sem] Oper.semAt_some

/-- What sent entries make of a view. -/
theorem VB.frozen {W : World} {g i : Nat} {b t : Int} {lv : Value} (h : VB W g b t lv) : W.frozen? ⟨g, i, none⟩ = false := by
  have h' : W.heap[g]? = _ := h
  simp [World.frozen?, h']

theorem load25 (w : World) (b : Nat) (c0 c1 c2 : Value) (h0 : w.cell? ⟨b, 0, none⟩ = some c0) (h1 : w.cell? ⟨b, 1, none⟩ = some c1) (h2 : w.cell? ⟨b, 2, none⟩ = some c2) : (loadVar 26 ⟨b, 0, none⟩).run Try.prog w = .ok (.agg #[c0, c1, c2]) w := by
  simp [go_sem, h0, h1, h2]
theorem ret_view {fn : Func} {p : Tmp} (h : fn.results = #[.cell p 26]) (tmps : Array Value) (w : World) (g : Nat) (b t : Int) (lv : Value) (hp : tmps.getD p undef = .pointer (some ⟨g, 0, none⟩)) (hb : VB w g b t lv) : (results fn tmps).run Try.prog w = .ok (viewV b t lv) w := by
  have ha : (asAddr (.pointer (some ⟨g, 0, none⟩))).run Try.prog w = .ok ⟨g, 0, none⟩ w := by simp [asAddr]
  obtain ⟨c0, c1, c2⟩ := hb.cells
  rw [results_cell1 h, hp, ha]
  simp only [Result.andThen]
  rw [load25 w g _ _ _ c0 c1 c2]
  rfl
theorem EO.base {w w1 W : World} {v : Value} {ps : List (Ent × Value)} (h : EO w1 W v ps) (hg : w.grownBy w1 none) : EO w W v ps :=
  ⟨row_base h.row hg.size, fun p hp => ⟨row_base (h.own p hp).1 hg.size, (h.own p hp).2⟩, grown_trans hg h.gr⟩
end Go.Proofs.Ytcijjepleedecaa.W
