/- Do, where entries are cut off and others added. -/
import Derived.Test.YtcijjepleedecaaEnM
namespace Go.Proofs.Ytcijjepleedecaa.W
open Go.RowKit Go.Maps
set_option linter.unusedVariables false
set_option linter.unusedSimpArgs false
set_option maxRecDepth 100000
attribute [local go_sem] Oper.semAt_some

theorem mix_skip {P : Program} {ops : Array Oper} {Q : Act → Cl → Prop} {a : Act} {C : Cl} {i : Nat} {rest : List (Nat × Bool)} {o : Oper} (ho : ops[i]? = some o) (hw : Region.wanted o (yielded ops a.tmps) = true)
    (h : ∀ w, C.now w → ∃ w'', (execOp a.eval o).run P w = .ok .skip w'' ∧ Behind C (wpMix P ops Q rest) (a.put o.dst undef) w'') : wpMix P ops Q ((i, false) :: rest) a C :=
  ⟨o, ho, by
    rw [hw]
    exact fun w hC => by obtain ⟨w'', hr, hb⟩ := h w hC; rw [hr]; exact hb⟩
theorem VB.set2 {W : World} {g : Nat} {b t : Int} {lv : Value} (h : VB W g b t lv) (lv' : Value) : VB (W.setCell ⟨g, 2, none⟩ lv') g b t lv' := by
  have h' : W.heap[g]? = _ := h
  unfold VB
  simp [World.setCell, Array.getElem?_modify, h']
theorem VB.put {W : World} {g : Nat} {b0 t0 : Int} {lv0 : Value} (h : VB W g b0 t0 lv0) (b t : Int) (lv : Value) :
    VB (((W.setCell ⟨g, 0, none⟩ (.int .i64 b)).setCell ⟨g, 1, none⟩ (.int .i64 t)).setCell ⟨g, 2, none⟩ lv) g b t lv ∧ W.grownBy (((W.setCell ⟨g, 0, none⟩ (.int .i64 b)).setCell ⟨g, 1, none⟩ (.int .i64 t)).setCell ⟨g, 2, none⟩ lv) (some g) := by
  have h' : W.heap[g]? = _ := h
  refine ⟨?_, grown_trans (grown_trans (grown_setCell _ _ _ _) (grown_setCell _ _ _ _)) (grown_setCell _ _ _ _)⟩
  unfold VB
  simp [World.setCell, Array.getElem?_modify, h']

end Go.Proofs.Ytcijjepleedecaa.W
