/- From: the program's and the document's. -/
import Derived.Test.YtcijjepleedecaaErB
namespace Go.Proofs.Ytcijjepleedecaa.W
open Go.RowKit Go.Maps
set_option linter.unusedVariables false
set_option linter.unusedSimpArgs false
set_option maxRecDepth 100000
attribute [local go_sem] Oper.semAt_some

/-- The entries from an index on, at most so many. -/
def fromL (b t : Int) (es : List Ent) (i most : Int) : List Ent := if rightV b t es = true then (es.drop (plc b es.length i)).take most.toNat else []
theorem fromL_bad {b t : Int} {es : List Ent} {i most : Int} (h : rightV b t es = false) : fromL b t es i most = [] := by unfold fromL; rw [h]; rfl
theorem fromL_ok {b t : Int} {es : List Ent} {i most : Int} (h : rightV b t es = true) : fromL b t es i most = (es.drop (plc b es.length i)).take most.toNat := by unfold fromL; rw [if_pos h]

/-- Entries in a row of one's own, with data of others. -/
structure ER (w W : World) (v : Value) (ps : List (Ent × Value)) : Prop where
  row : W.ownsRow w.heap.size 55 4 v ps.length (ps.flatMap entCells)
  dat : ∀ p ∈ ps, Byt w p.2 p.1.data ∧ p.1.data.length ≤ 140737488355328
  gr : w.grownBy W none
theorem ER.kept {w W W' : World} {v : Value} {ps : List (Ent × Value)} (h : ER w W v ps) (hg : W.grownBy W' none) : ER w W' v ps :=
  ⟨owns_kept h.row hg (fun _ _ _ => by simp), h.dat, grown_trans h.gr hg⟩
theorem ER.nil {w W : World} (h : w.grownBy W none) : ER w W (.slice none 0 0) [] := ⟨World.ownsRow_nil _ _ _ _, by simp, h⟩
theorem ER.reads {w W : World} {v : Value} {es : List (Ent × Value)} (h : ER w W v es) : EntsR W v (es.map (·.1)) := by
  rcases h.row.2 with ⟨rfl, h0⟩ | ⟨g, cap, cur, rfl, hb, hg, h1, h2, h3, h4⟩
  · obtain rfl : es = [] := List.length_eq_zero_iff.1 h0
    exact EntsR.nil _
  · refine .inr ⟨g, 0, cap, by simp, by simpa using h1, fun j x hj => ?_⟩
    rw [List.getElem?_map, Option.map_eq_some_iff] at hj
    obtain ⟨p, hp, rfl⟩ := hj
    have hl : j < es.length := (List.getElem?_eq_some_iff.1 hp).1
    have key : ∀ i, i < 4 → W.cell? ⟨g, 0 + j * 4 + i, none⟩ = (entCells p)[i]? := fun i hi => by
      rw [← entCells_at es j i p hp hi, cell_of_row _ _ _ _ _ _ hg, ← h4, List.getElem?_take, if_pos (by omega), Nat.zero_add]
      simp
    obtain ⟨ho, hd⟩ := h.dat p (List.mem_of_getElem? hp)
    refine ⟨p.2, ?_, ?_, ?_, ?_, ho.kept h.gr, hd⟩
    · have := key 0 (by omega); simpa [entCells] using this
    · have := key 1 (by omega); simpa [entCells] using this
    · have := key 2 (by omega); simpa [entCells] using this
    · have := key 3 (by omega); simpa [entCells] using this
theorem run_append_er {w W : World} {v : Value} {es : List (Ent × Value)} (h : ER w W v es) (x : Ent) (dv : Value) (ho : Byt w dv x.data) (hd : x.data.length ≤ 140737488355328) (hl : (es.length + 1) * 48 ≤ 140737488355328) {o : Oper} {a : Act} (s y : Operand)
    (hop : o.op = .call { callee := .builtin .append, args := #[s, y], argTypes := #[24, 24] }) (hs : a.eval s = v) (hy : a.eval y = .slice (some ⟨W.heap.size, 0, none⟩) 1 1) :
    ∃ a' c' W', (execOp a.eval o).run Try.prog (W.alloc (.cells #[.int .i64 x.term, .int .i64 x.index, .int .i64 x.kind, dv] 55)) = .ok (.value (.slice a' (es.length + 1) c')) W' ∧ ER w W' (.slice a' (es.length + 1) c') (es ++ [(x, dv)]) := by
  obtain ⟨i0, hi, hz0, hz1, hz2⟩ := info_parts info47
  have hg := World.grownBy_alloc W (.cells #[.int .i64 x.term, .int .i64 x.index, .int .i64 x.kind, dv] 55) none
  have hE := h.kept hg
  have hone : ∀ u ∈ entCells (x, dv), u.oneCell' = true := fun u hu => by
    obtain ⟨_, _, rfl⟩ := ho.len
    simp [entCells] at hu
    rcases hu with rfl | rfl | rfl | rfl <;> rfl
  obtain ⟨v', w', hrun, r1, r2, _, _⟩ := run_append_own_at (P := Try.prog) (W.alloc (.cells #[.int .i64 x.term, .int .i64 x.index, .int .i64 x.kind, dv] 55)) w.heap.size 24 o.type 55 i0 (.agg #[.int .i64 0, .int .i64 0, .int .i64 0, .slice none 0 0]) 4 48 Try.underlying24 hi hz0 hz1 hz2 rfl (by decide) v es.length (es.flatMap entCells) hE.row ⟨W.heap.size, 0, none⟩ 1 1 (entCells (x, dv)) rfl (cell_four_new _ _ _ _ _ _) hone (by unfold maxLen; omega) hl hE.gr.size
  obtain ⟨a', c', rfl⟩ := row_shape r1
  refine ⟨a', c', w', by simp [execOp, hop, resolve, invoke, builtin, hs, hy, hrun, Result.andThen], ⟨?_, fun p hp => ?_, grown_row hE.gr hE.row r2⟩⟩
  · rw [List.length_append, List.flatMap_append]; simpa using r1
  · rcases List.mem_append.1 hp with hp | hp
    · exact h.dat p hp
    · obtain rfl : p = (x, dv) := by simpa using hp
      exact ⟨ho, hd⟩
theorem wpListIn_append_er {F : Fence} {n : Nat} {w W : World} {v : Value} {es : List (Ent × Value)} (h : ER w W v es) (x : Ent) (dv : Value) (ho : Byt w dv x.data) (hd : x.data.length ≤ 140737488355328) (hl : (es.length + 1) * 48 ≤ 140737488355328) {ops : Array Oper} {rest : List Oper} {o : Oper} {a : Act} {Q : Exit → Act → World → Prop}
    (hgd : o.guard = none) (s y : Operand) (hop : o.op = .call { callee := .builtin .append, args := #[s, y], argTypes := #[24, 24] }) (hs : a.eval s = v) (hy : a.eval y = .slice (some ⟨W.heap.size, 0, none⟩) 1 1)
    (hK : ∀ a' c' W', ER w W' (.slice a' (es.length + 1) c') (es ++ [(x, dv)]) → wpListIn F n Try.prog ops Q rest (a.put o.dst (.slice a' (es.length + 1) c')) W') :
    wpListIn F n Try.prog ops Q (o :: rest) a (W.alloc (.cells #[.int .i64 x.term, .int .i64 x.index, .int .i64 x.kind, dv] 55)) := by
  obtain ⟨a', c', W', hrun, h1⟩ := run_append_er h x dv ho hd hl (o := o) (a := a) s y hop hs hy
  refine wpListIn_plain hgd fun K hK' => ?_
  unfold Oper.wpIn
  refine ⟨?_, ?_⟩
  · simp [Oper.about, hop, resolve, Target.leads, Sem.run_pure]
  · rw [Oper.semAt_plain F _ _ (by rw [hop]; intro c hc'; cases hc'), hrun]
    exact hK' _ _ (hK a' c' W' h1)

end Go.Proofs.Ytcijjepleedecaa.W
