/- The program's own message: its parts. -/
import Derived.Test.YtliefofdlpljaaaDoorPm
namespace Go.Proofs.YtliefofdlpljaaaDoor
open Go.RowKit Go.Maps
set_option linter.unusedVariables false
set_option linter.unusedSimpArgs false

/-- append([]int{}, l...), as an operation. -/
theorem run_append_ints (w0 W : World) {o : Oper} {a : Act} (s y : Operand) (ho : o.op = .call { callee := .builtin .append, args := #[s, y], argTypes := #[23, 23] }) (hg0 : w0.grownBy W none)
    (v : Value) (hs : a.eval s = v) (hown : OwnI W w0.heap.size v []) (l : List Int) (sv : Value) (hy : a.eval y = sv) (h : IntsR W sv l) (hl : l.length ≤ 17592186044416) :
    ∃ a' c' W', (execOp a.eval o).run Tryd.prog W = .ok (.value (.slice a' l.length c')) W' ∧ OwnI W' w0.heap.size (.slice a' l.length c') l ∧ w0.grownBy W' none ∧ W.grownBy W' v.ownBlock := by
  obtain ⟨i0, hi, hz0, hz1, hz2⟩ := info_parts info3
  have hone : ∀ u ∈ i64s l, u.oneCell' = true := fun u hu => by
    obtain ⟨x, _, rfl⟩ := List.mem_map.1 hu; rfl
  have key : ∀ (ad : Addr) (n c : Nat), sv = .slice (some ad) n c → l.length = n → (∀ j u, (i64s l)[j]? = some u → W.cell? (ad.add j) = some u) →
      ∃ a' c' W', (execOp a.eval o).run Tryd.prog W = .ok (.value (.slice a' l.length c')) W' ∧ OwnI W' w0.heap.size (.slice a' l.length c') l ∧ w0.grownBy W' none ∧ W.grownBy W' v.ownBlock := by
    intro ad n c e hn hcl
    subst hn
    have hown' : W.ownsRow w0.heap.size 3 1 v 0 [] := hown
    obtain ⟨v', w', hrun, r1, r2, _, _⟩ := run_append_own_at (P := Tryd.prog) W w0.heap.size 23 o.type 3 i0 (.int .i64 0) 1 8 Tryd.underlying23 hi hz0 hz1 hz2 rfl (by decide) v 0 [] hown' ad l.length c (i64s l) (by simp [i64s]) hcl hone (by unfold maxLen; omega) (by omega) hg0.size
    simp only [Nat.zero_add, List.nil_append] at r1
    obtain ⟨a', c', rfl⟩ := row_shape r1
    refine ⟨a', c', w', ?_, r1, grown_row hg0 hown' r2, r2⟩
    rw [e] at hy
    simp [execOp, ho, resolve, invoke, builtin, hs, hy, hrun, Result.andThen]
  rcases h with ⟨rfl, a', cap', e, hn⟩ | ⟨b, off, cap', e, _, hcl⟩
  · cases a' with
    | none =>
      obtain rfl := hn rfl
      have hown' : W.ownsRow w0.heap.size 3 1 v 0 [] := hown
      have hrun := run_append_owned_none (P := Tryd.prog) W w0.heap.size 23 o.type 3 i0 1 Tryd.underlying23 hi v 0 [] hown'
      obtain ⟨a1, c1, rfl⟩ := row_shape hown'
      refine ⟨a1, c1, W, ?_, hown, hg0, grown_refl _ _⟩
      rw [e] at hy
      simp [execOp, ho, resolve, invoke, builtin, hs, hy, hrun, Result.andThen]
    | some ad => exact key ad 0 cap' e rfl (fun j u hj => by simp [i64s] at hj)
  · refine key ⟨b, off, none⟩ l.length cap' e rfl (fun j u hj => ?_)
    simp only [i64s, List.getElem?_map, Option.map_eq_some_iff] at hj
    obtain ⟨x, hx, rfl⟩ := hj
    rw [← hcl j x hx, addr_add]

/-! ### Entries of one's own -/
def entCells (p : Ent × Value) : List Value := [.int .i64 p.1.term, .int .i64 p.1.index, .int .i64 p.1.kind, p.2]
theorem entCells_at (es : List (Ent × Value)) : ∀ (j i : Nat) (p : Ent × Value), es[j]? = some p → i < 4 → (es.flatMap entCells)[j * 4 + i]? = (entCells p)[i]? := by
  induction es with
  | nil => intro j i p h; simp at h
  | cons q es ih =>
    intro j i p h hi
    rw [List.flatMap_cons]
    match j, h with
    | 0, h =>
      simp at h
      subst h
      rw [Nat.zero_mul, Nat.zero_add, List.getElem?_append_left (by simpa [entCells] using hi)]
    | j + 1, h =>
      rw [List.getElem?_append_right (by simp [entCells]; omega)]
      have := ih j i p (by simpa using h) hi
      rw [← this]
      congr 1
      simp [entCells]
      omega
theorem entCells_len (es : List (Ent × Value)) : (es.flatMap entCells).length = es.length * 4 := by
  induction es with
  | nil => rfl
  | cons q es ih => rw [List.flatMap_cons, List.length_append, ih, List.length_cons]; simp [entCells]; omega
structure EO (w W : World) (v : Value) (es : List (Ent × Value)) : Prop where
  row : W.ownsRow w.heap.size 47 4 v es.length (es.flatMap entCells)
  own : ∀ p ∈ es, Own W w.heap.size p.2 p.1.data ∧ p.1.data.length ≤ 140737488355328
  gr : w.grownBy W none
theorem EO.kept {w W W' : World} {v : Value} {es : List (Ent × Value)} (h : EO w W v es) (hg : W.grownBy W' none) : EO w W' v es :=
  ⟨owns_kept h.row hg (fun _ _ _ => by simp), fun p hp => ⟨(h.own p hp).1.kept hg (.inl rfl), (h.own p hp).2⟩, grown_trans h.gr hg⟩
theorem EO.nil {w W : World} (h : w.grownBy W none) : EO w W (.slice none 0 0) [] := ⟨World.ownsRow_nil _ _ _ _, by simp, h⟩
/-- A store into a block of another kind. -/
theorem EO.but {w W W' : World} {v : Value} {es : List (Ent × Value)} {b : Nat} {c : Array Value} {t : TypeId} {f : Nat × Nat} (h : EO w W v es) (hb : W.heap[b]? = some (.cells c t f)) (h47 : t ≠ 47) (h5 : t ≠ 5) (hlo : w.heap.size ≤ b) (hg : W.grownBy W' (some b)) : EO w W' v es :=
  ⟨owns_kept h.row hg (fun g cur hh => ne_tag hh hb (Ne.symm h47)), fun p hp => ⟨owns_kept (h.own p hp).1 hg (fun g cur hh => ne_tag hh hb (Ne.symm h5)), (h.own p hp).2⟩, grown_new h.gr hg hlo⟩
theorem EO.reads {w W : World} {v : Value} {es : List (Ent × Value)} (h : EO w W v es) : EntsR W v (es.map (·.1)) := by
  rcases h.row.2 with ⟨rfl, h0⟩ | ⟨g, cap, cur, rfl, hb, hg, h1, h2, h3, h4⟩
  · obtain rfl : es = [] := List.length_eq_zero_iff.1 h0
    exact EntsR.nil _
  · refine .inr ⟨g, 0, cap, by simp, by simpa using h1, fun j x hj => ?_⟩
    rw [List.getElem?_map, Option.map_eq_some_iff] at hj
    obtain ⟨p, hp, rfl⟩ := hj
    have hl : j < es.length := (List.getElem?_eq_some_iff.1 hp).1
    have key : ∀ i, i < 4 → W.cell? ⟨g, 0 + j * 4 + i, none⟩ = (entCells p)[i]? := fun i hi => by
      rw [← entCells_at es j i p hp hi, cell_of_row _ _ _ _ _ _ hg, ← h4, List.getElem?_take, if_pos (by omega), Nat.zero_add]
      simp
    obtain ⟨ho, hd⟩ := h.own p (List.mem_of_getElem? hp)
    refine ⟨p.2, ?_, ?_, ?_, ?_, ho.byt, hd⟩
    · have := key 0 (by omega); simpa [entCells] using this
    · have := key 1 (by omega); simpa [entCells] using this
    · have := key 2 (by omega); simpa [entCells] using this
    · have := key 3 (by omega); simpa [entCells] using this
theorem info47 : (Tryd.prog.info? 47).map (fun i => (i.zero, i.size, i.bytes)) = some (some (.agg #[.int .i64 0, .int .i64 0, .int .i64 0, .slice none 0 0]), 4, 48) := by kernel_rfl
theorem cell_four_new (w : World) (x0 x1 x2 x3 : Value) (t : TypeId) : ∀ j u, [x0, x1, x2, x3][j]? = some u → (w.alloc (.cells #[x0, x1, x2, x3] t)).cell? ((⟨w.heap.size, 0, none⟩ : Addr).add j) = some u := by
  intro j u hj
  rw [addr_add, Nat.zero_add, cell_of_row _ _ _ _ _ _ (heap_alloc_new w (.cells #[x0, x1, x2, x3] t))]
  match j, hj with
  | 0, hj => simpa using hj
  | 1, hj => simpa using hj
  | 2, hj => simpa using hj
  | 3, hj => simpa using hj
/-- append(entries, x), as an operation. -/
theorem run_append_ent {w W : World} {v : Value} {es : List (Ent × Value)} (h : EO w W v es) (x : Ent) (dv : Value) (ho : Own W w.heap.size dv x.data) (hd : x.data.length ≤ 140737488355328) (hl : (es.length + 1) * 48 ≤ 140737488355328) {o : Oper} {a : Act} (s y : Operand)
    (hop : o.op = .call { callee := .builtin .append, args := #[s, y], argTypes := #[22, 22] }) (hs : a.eval s = v) (hy : a.eval y = .slice (some ⟨W.heap.size, 0, none⟩) 1 1) :
    ∃ a' c' W', (execOp a.eval o).run Tryd.prog (W.alloc (.cells #[.int .i64 x.term, .int .i64 x.index, .int .i64 x.kind, dv] 47)) = .ok (.value (.slice a' (es.length + 1) c')) W' ∧ EO w W' (.slice a' (es.length + 1) c') (es ++ [(x, dv)]) ∧ (W.alloc (.cells #[.int .i64 x.term, .int .i64 x.index, .int .i64 x.kind, dv] 47)).grownBy W' v.ownBlock := by
  obtain ⟨i0, hi, hz0, hz1, hz2⟩ := info_parts info47
  have hg := World.grownBy_alloc W (.cells #[.int .i64 x.term, .int .i64 x.index, .int .i64 x.kind, dv] 47) none
  have hE := h.kept hg
  have hone : ∀ u ∈ entCells (x, dv), u.oneCell' = true := fun u hu => by
    obtain ⟨_, _, rfl⟩ := ho.len
    simp [entCells] at hu
    rcases hu with rfl | rfl | rfl | rfl <;> rfl
  obtain ⟨v', w', hrun, r1, r2, _, _⟩ := run_append_own_at (P := Tryd.prog) (W.alloc (.cells #[.int .i64 x.term, .int .i64 x.index, .int .i64 x.kind, dv] 47)) w.heap.size 22 o.type 47 i0 (.agg #[.int .i64 0, .int .i64 0, .int .i64 0, .slice none 0 0]) 4 48 Tryd.underlying22 hi hz0 hz1 hz2 rfl (by decide) v es.length (es.flatMap entCells) hE.row ⟨W.heap.size, 0, none⟩ 1 1 (entCells (x, dv)) rfl (cell_four_new _ _ _ _ _ _) hone (by unfold maxLen; omega) hl hE.gr.size
  obtain ⟨a', c', rfl⟩ := row_shape r1
  refine ⟨a', c', w', by simp [execOp, hop, resolve, invoke, builtin, hs, hy, hrun, Result.andThen], ⟨?_, fun p hp => ?_, grown_row hE.gr hE.row r2⟩, r2⟩
  · rw [List.length_append, List.flatMap_append]; simpa using r1
  · have hk : ∀ (z : Value) (d : List UInt8), Own (W.alloc (.cells #[.int .i64 x.term, .int .i64 x.index, .int .i64 x.kind, dv] 47)) w.heap.size z d → Own w' w.heap.size z d := fun z d hz => owns_kept hz r2 (fun g cur hh => own_tag hE.row hh (by decide))
    rcases List.mem_append.1 hp with hp | hp
    · exact ⟨hk _ _ (hE.own p hp).1, (hE.own p hp).2⟩
    · obtain rfl : p = (x, dv) := by simpa using hp
      exact ⟨hk _ _ (ho.kept hg (.inl rfl)), hd⟩

end Go.Proofs.YtliefofdlpljaaaDoor
