/- The program's own message: a round of Own's loop, in whatever order it comes. -/
import Derived.Test.YtliefofdlpljaaaDoorOwnN
namespace Go.Proofs.YtliefofdlpljaaaDoor
open Go.RowKit Go.Maps
set_option linter.unusedVariables false
set_option linter.unusedSimpArgs false

structure OM (w0 W : World) (m : Msg) (g : Nat) (ev sv dv : Value) : Prop where
  mb : MB W 27 g m ev sv dv
  i : OwnI W w0.heap.size sv m.srv
  b : Own W w0.heap.size dv m.data
  lo : w0.heap.size ≤ g
  gr : w0.grownBy W none
theorem OM.kept {w0 W W' : World} {m : Msg} {g : Nat} {ev sv dv : Value} (h : OM w0 W m g ev sv dv) (hg : W.grownBy W' none) : OM w0 W' m g ev sv dv :=
  ⟨h.mb.kept hg, owns_kept h.i hg (fun _ _ _ => by simp), h.b.kept hg (.inl rfl), h.lo, grown_trans h.gr hg⟩
theorem MB.set9 {w : World} {t : TypeId} {b : Nat} {m : Msg} {ev sv dv : Value} (h : MB w t b m ev sv dv) (v : Value) : MB (w.setCell ⟨b, 9, none⟩ v) t b m v sv dv := by
  unfold MB msgCells at *
  simp [World.setCell, Array.getElem?_modify, h]
theorem OM.set9 {w0 W : World} {m : Msg} {g : Nat} {ev sv dv : Value} (h : OM w0 W m g ev sv dv) (v : Value) : OM w0 (W.setCell ⟨g, 9, none⟩ v) m g v sv dv :=
  ⟨h.mb.set9 v, owns_kept h.i (grown_setCell _ _ _ _) (fun _ _ hh => ne_tag hh h.mb (by decide)), owns_kept h.b (grown_setCell _ _ _ _) (fun _ _ hh => ne_tag hh h.mb (by decide)), h.lo, grown_new h.gr (grown_setCell _ _ _ _) h.lo⟩
/-- A step that turned a row of entries alone. -/
theorem OM.row {w0 W W' : World} {m : Msg} {g : Nat} {ev sv dv v : Value} {es : List (Ent × Value)} (h : OM w0 W m g ev sv dv) (hE : EO w0 W v es) (hg : W.grownBy W' v.ownBlock) : OM w0 W' m g ev sv dv :=
  ⟨(hg.block g (Array.getElem?_eq_some_iff.1 h.mb).1 (own_tag hE.row h.mb (by decide))).trans h.mb, owns_kept h.i hg (fun _ _ hh => own_tag hE.row hh (by decide)), owns_kept h.b hg (fun _ _ hh => own_tag hE.row hh (by decide)), h.lo, grown_row h.gr hE.row hg⟩
/-- Where the loop stands. -/
def OE (w0 W : World) (m : Msg) (g : Nat) (sv dv : Value) (k : Nat) : Prop := ∃ ev es, OM w0 W m g ev sv dv ∧ EO w0 W ev es ∧ es.map (·.1) = m.ents.take k

theorem run_append_ent2 {w W : World} {v : Value} {es : List (Ent × Value)} (h : EO w W v es) (x : Ent) (dv : Value) (ho : Own W w.heap.size dv x.data) (hd : x.data.length ≤ 140737488355328) (hl : (es.length + 1) * 48 ≤ 140737488355328) {o : Oper} {a : Act} (s y : Operand) (gb : Nat)
    (hop : o.op = .call { callee := .builtin .append, args := #[s, y], argTypes := #[22, 22] }) (hs : a.eval s = v) (hy : a.eval y = .slice (some ⟨gb, 0, none⟩) 1 1) (hb : W.heap[gb]? = some (.cells #[.int .i64 x.term, .int .i64 x.index, .int .i64 x.kind, dv] 47 (0, 0))) :
    ∃ a' c' W', (execOp a.eval o).run Tryd.prog W = .ok (.value (.slice a' (es.length + 1) c')) W' ∧ EO w W' (.slice a' (es.length + 1) c') (es ++ [(x, dv)]) ∧ W.grownBy W' v.ownBlock := by
  obtain ⟨i0, hi, hz0, hz1, hz2⟩ := info_parts info47
  have hone : ∀ u ∈ entCells (x, dv), u.oneCell' = true := fun u hu => by
    obtain ⟨_, _, rfl⟩ := ho.len
    simp [entCells] at hu
    rcases hu with rfl | rfl | rfl | rfl <;> rfl
  have hnews : ∀ j u, (entCells (x, dv))[j]? = some u → W.cell? ((⟨gb, 0, none⟩ : Addr).add j) = some u := by
    intro j u hj
    rw [addr_add, Nat.zero_add, cell_of_row _ _ _ _ _ _ hb]
    simpa [entCells] using hj
  obtain ⟨v', w', hrun, r1, r2, _, _⟩ := run_append_own_at (P := Tryd.prog) W w.heap.size 22 o.type 47 i0 (.agg #[.int .i64 0, .int .i64 0, .int .i64 0, .slice none 0 0]) 4 48 Tryd.underlying22 hi hz0 hz1 hz2 rfl (by decide) v es.length (es.flatMap entCells) h.row ⟨gb, 0, none⟩ 1 1 (entCells (x, dv)) rfl hnews hone (by unfold maxLen; omega) hl h.gr.size
  obtain ⟨a', c', rfl⟩ := row_shape r1
  refine ⟨a', c', w', by simp [execOp, hop, resolve, invoke, builtin, hs, hy, hrun, Result.andThen], ⟨?_, fun p hp => ?_, grown_row h.gr h.row r2⟩, r2⟩
  · rw [List.length_append, List.flatMap_append]; simpa using r1
  · have hk : ∀ (z : Value) (d : List UInt8), Own W w.heap.size z d → Own w' w.heap.size z d := fun z d hz => owns_kept hz r2 (fun g cur hh => own_tag h.row hh (by decide))
    rcases List.mem_append.1 hp with hp | hp
    · exact ⟨hk _ _ (h.own p hp).1, (h.own p hp).2⟩
    · obtain rfl : p = (x, dv) := by simpa using hp
      exact ⟨hk _ _ ho, hd⟩

section
variable {X : List PanicEntry → List Deferred → World → Prop} {ops : Array Oper} {K : Act → Cl → Prop} {a : Act} {i : Nat} {o : Oper} {w0 w1 : World} {m : Msg} {g : Nat} {ev sv dv : Value} {es : List (Ent × Value)}
/-- What stands before the append; what else holds of that world. -/
structure SA (w0 W : World) (m : Msg) (g : Nat) (ev sv dv : Value) (es : List (Ent × Value)) : Prop where
  om : OM w0 W m g ev sv dv
  eo : EO w0 W ev es
theorem SA.kept {W W' : World} (h : SA w0 W m g ev sv dv es) (hg : W.grownBy W' none) : SA w0 W' m g ev sv dv es := ⟨h.om.kept hg, h.eo.kept hg⟩
theorem sa_load (h : SA w0 w1 m g ev sv dv es) (ho : ops[i]? = some o) (hw : Region.wanted o (yielded ops a.tmps) = true) (hrun : ∀ W : World, W.cell? ⟨g, 9, none⟩ = some ev → (execOp a.eval o).run Tryd.prog W = .ok (.value ev) W)
    (hc : ∀ K' : Act → Cl → Prop, (∀ a C, K a C → K' a C) → ∀ n, K' (a.put o.dst ev) (cl w0 (w1.drewN n))) : mxOpX Tryd.prog X ops i K a (cl w0 w1) := by
  refine fork_do ho hw (fun W hW => ?_)
  obtain ⟨n, rfl⟩ := hW
  have hk := h.kept (drawn w1 n)
  exact ⟨_, _, hrun _ hk.om.mb.rest.2.1, cl_behind hk.om.gr (fun _ h => h) (hc K (fun _ _ h => h) n)⟩
theorem sa_own (h : SA w0 w1 m g ev sv dv es) (x : Ent) (xv : Value) (hx : Byt w0 xv x.data) (hxl : x.data.length ≤ 140737488355328) (ho : ops[i]? = some o) (hw : Region.wanted o (yielded ops a.tmps) = true) (hrun : ∀ W : World, (execOp a.eval o).run Tryd.prog W = .ok (.enter 20 #[entV x xv]) W)
    (hc : ∀ K' : Act → Cl → Prop, (∀ a C, K a C → K' a C) → ∀ a3 n3 c3 W', Hid (SA w0 W' m g ev sv dv es ∧ Own W' w0.heap.size (.slice a3 n3 c3) x.data) → K' (a.put o.dst (.agg #[.int .i64 x.term, .int .i64 x.index, .int .i64 x.kind, .slice a3 n3 c3])) (cl w0 W')) : mxOpX Tryd.prog X ops i K a (cl w0 w1) := by
  unfold mxOpX
  simp only [ho, hw, if_true]
  refine .inr fun W hW => ?_
  obtain ⟨n, rfl⟩ := hW
  have hk := h.kept (drawn w1 n)
  rw [hrun]
  refine (ownE_any x xv (w1.drewN n) (hx.kept hk.om.gr) hxl).mono ?_
  rintro e w3 ⟨dv3, rfl, ho3, hg3⟩
  have hk3 := hk.kept hg3
  have O3 := ho3.base hk.om.gr.size
  obtain ⟨a3, c3, rfl⟩ := ho3.len
  exact .inl ⟨_, rfl, cl_behind hk3.om.gr (fun _ h => h) (hc K (fun _ _ h => h) a3 _ c3 w3 (hid_mk ⟨hk3, O3⟩))⟩
theorem sa_new {x : Ent} {a3 : Option Addr} {n3 c3 : Nat} (h : SA w0 w1 m g ev sv dv es ∧ Own w1 w0.heap.size (.slice a3 n3 c3) x.data) (ho : ops[i]? = some o) (hw : Region.wanted o (yielded ops a.tmps) = true)
    (hrun : ∀ W : World, (execOp a.eval o).run Tryd.prog W = .ok (.value (.slice (some ⟨W.heap.size, 0, none⟩) 1 1)) (W.alloc (.cells #[.int .i64 x.term, .int .i64 x.index, .int .i64 x.kind, .slice a3 n3 c3] 47)))
    (hc : ∀ K' : Act → Cl → Prop, (∀ a C, K a C → K' a C) → ∀ gb W', Hid (SA w0 W' m g ev sv dv es ∧ Own W' w0.heap.size (.slice a3 n3 c3) x.data ∧ W'.heap[gb]? = some (.cells #[.int .i64 x.term, .int .i64 x.index, .int .i64 x.kind, .slice a3 n3 c3] 47 (0, 0))) → K' (a.put o.dst (.slice (some ⟨gb, 0, none⟩) 1 1)) (cl w0 W')) : mxOpX Tryd.prog X ops i K a (cl w0 w1) := by
  refine fork_do ho hw (fun W hW => ?_)
  obtain ⟨n, rfl⟩ := hW
  have hg := grown_trans (drawn w1 n) (World.grownBy_alloc (w1.drewN n) (.cells #[.int .i64 x.term, .int .i64 x.index, .int .i64 x.kind, .slice a3 n3 c3] 47) none)
  have hk := h.1.kept hg
  exact ⟨_, _, hrun _, cl_behind hk.om.gr (fun _ h => h) (hc K (fun _ _ h => h) _ _ (hid_mk ⟨hk, h.2.kept hg (.inl rfl), heap_alloc_new _ _⟩))⟩
theorem sa_app {x : Ent} {gb : Nat} {a3 : Option Addr} {n3 c3 : Nat} (h : SA w0 w1 m g ev sv dv es ∧ Own w1 w0.heap.size (.slice a3 n3 c3) x.data ∧ w1.heap[gb]? = some (.cells #[.int .i64 x.term, .int .i64 x.index, .int .i64 x.kind, .slice a3 n3 c3] 47 (0, 0))) (k : Nat) (hk : es.length = k) (hd : x.data.length ≤ 140737488355328) (hl : (k + 1) * 48 ≤ 140737488355328)
    (ho : ops[i]? = some o) (hw : Region.wanted o (yielded ops a.tmps) = true) (s y : Operand) (hop : o.op = .call { callee := .builtin .append, args := #[s, y], argTypes := #[22, 22] }) (hs : a.eval s = ev) (hy : a.eval y = .slice (some ⟨gb, 0, none⟩) 1 1)
    (hc : ∀ K' : Act → Cl → Prop, (∀ a C, K a C → K' a C) → ∀ a' c' W', Hid (OM w0 W' m g ev sv dv ∧ EO w0 W' (.slice a' (k + 1) c') (es ++ [(x, .slice a3 n3 c3)])) → K' (a.put o.dst (.slice a' (k + 1) c')) (cl w0 W')) : mxOpX Tryd.prog X ops i K a (cl w0 w1) := by
  subst hk
  refine fork_do ho hw (fun W hW => ?_)
  obtain ⟨n, rfl⟩ := hW
  have hk := h.1.kept (drawn w1 n)
  obtain ⟨a', c', W', hrun, h1, h2⟩ := run_append_ent2 hk.eo x _ (h.2.1.kept (drawn w1 n) (.inl rfl)) hd hl s y gb hop hs hy (((drawn w1 n).block gb (Array.getElem?_eq_some_iff.1 h.2.2).1 (by simp)).trans h.2.2)
  exact ⟨_, W', hrun, cl_behind h1.gr (fun _ h => h) (hc K (fun _ _ h => h) a' c' W' (hid_mk ⟨hk.om.row hk.eo h2, h1⟩))⟩
theorem sa_store {ev' : Value} {es' : List (Ent × Value)} (h : OM w0 w1 m g ev sv dv ∧ EO w0 w1 ev' es') (ho : ops[i]? = some o) (hw : Region.wanted o (yielded ops a.tmps) = true)
    (hrun : ∀ W : World, W.cell? ⟨g, 9, none⟩ = some ev → W.frozen? ⟨g, 9, none⟩ = false → (execOp a.eval o).run Tryd.prog W = .ok .skip (W.setCell ⟨g, 9, none⟩ ev'))
    (hc : ∀ K' : Act → Cl → Prop, (∀ a C, K a C → K' a C) → ∀ W', Hid (OM w0 W' m g ev' sv dv ∧ EO w0 W' ev' es') → K' (a.put o.dst undef) (cl w0 W')) : mxOpX Tryd.prog X ops i K a (cl w0 w1) := by
  unfold mxOpX
  simp only [ho, hw, if_true]
  refine .inr fun W hW => ?_
  obtain ⟨n, rfl⟩ := hW
  have hk := h.1.kept (drawn w1 n)
  have he := h.2.kept (drawn w1 n)
  obtain ⟨_, r9, _, _, rf⟩ := hk.mb.rest
  rw [hrun _ r9 (rf 9)]
  have hk' := hk.set9 ev'
  exact cl_behind hk'.gr (fun _ h => h) (hc K (fun _ _ h => h) _ (hid_mk ⟨hk', he.but hk.mb (by decide) (by decide) hk.lo (grown_setCell _ _ _ _)⟩))
end

end Go.Proofs.YtliefofdlpljaaaDoor
