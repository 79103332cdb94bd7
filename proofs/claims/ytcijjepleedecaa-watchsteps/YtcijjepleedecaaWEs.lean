/- Entries that can be read, of one's own; parts of one's own; Clone of entries. -/
import Derived.Test.YtcijjepleedecaaKc
namespace Go.Proofs.Ytcijjepleedecaa.W
set_option maxRecDepth 100000
open Go.RowKit Go.Maps
set_option linter.unusedVariables false
set_option linter.unusedSimpArgs false

theorem drawn (w : World) (m : Nat) : w.grownBy (w.drewN m) none := grown_drewN _ m none
/-- Entries that can be read. -/
def EntsR (W : World) (lv : Value) (es : List Ent) : Prop :=
  (es = [] ∧ ∃ a cap, lv = .slice a 0 cap ∧ (a = none → cap = 0)) ∨ ∃ b off cap, lv = .slice (some ⟨b, off, none⟩) es.length cap ∧ es.length ≤ cap ∧
    ∀ (i : Nat) x, es[i]? = some x → ∃ dv, W.cell? ⟨b, off + i * 4, none⟩ = some (.int .i64 x.term) ∧ W.cell? ⟨b, off + i * 4 + 1, none⟩ = some (.int .i64 x.index) ∧ W.cell? ⟨b, off + i * 4 + 2, none⟩ = some (.int .i64 x.kind) ∧ W.cell? ⟨b, off + i * 4 + 3, none⟩ = some dv ∧ Byt W dv x.data ∧ x.data.length ≤ 140737488355328
theorem EntsR.len {W : World} {lv : Value} {es : List Ent} (h : EntsR W lv es) : ∃ a cap, lv = .slice a es.length cap := by
  rcases h with ⟨rfl, a, cap, rfl, _⟩ | ⟨b, off, cap, rfl, _⟩
  · exact ⟨_, _, rfl⟩
  · exact ⟨_, _, rfl⟩
theorem EntsR.kept {W W' : World} {lv : Value} {es : List Ent} (h : EntsR W lv es) (hg : W.grownBy W' none) : EntsR W' lv es := by
  rcases h with h | ⟨b, off, cap, hv, hl, hc⟩
  · exact .inl h
  · refine .inr ⟨b, off, cap, hv, hl, fun i x hx => ?_⟩
    obtain ⟨dv, h0, h1, h2, h3, h4, h5⟩ := hc i x hx
    exact ⟨dv, hg.cell h0 (by simp), hg.cell h1 (by simp), hg.cell h2 (by simp), hg.cell h3 (by simp), h4.kept hg, h5⟩
theorem EntsR.nil (w : World) : EntsR w (.slice none 0 0) [] := .inl ⟨rfl, none, 0, rfl, fun _ => rfl⟩
theorem EntsR.at {W : World} {a : Option Addr} {n cap : Nat} {es : List Ent} (h : EntsR W (.slice a n cap) es) (h0 : 0 < es.length) : ∃ b off, a = some ⟨b, off, none⟩ ∧ es.length ≤ cap ∧
    ∀ (i : Nat) x, es[i]? = some x → ∃ dv, W.cell? ⟨b, off + i * 4, none⟩ = some (.int .i64 x.term) ∧ W.cell? ⟨b, off + i * 4 + 1, none⟩ = some (.int .i64 x.index) ∧ W.cell? ⟨b, off + i * 4 + 2, none⟩ = some (.int .i64 x.kind) ∧ W.cell? ⟨b, off + i * 4 + 3, none⟩ = some dv ∧ Byt W dv x.data ∧ x.data.length ≤ 140737488355328 := by
  rcases h with ⟨rfl, _⟩ | ⟨b, off, cap', e, hl, hc⟩
  · simp at h0
  · injection e with e1 e2 e3
    subst e3
    exact ⟨b, off, e1, hl, hc⟩

/-- Parts of one's own in a row of one's own. -/
structure PO (w W : World) (v : Value) (ps : List (Value × List UInt8)) : Prop where
  row : W.ownsRow w.heap.size 53 1 v ps.length (ps.map (·.1))
  own : ∀ p ∈ ps, Own W w.heap.size p.1 p.2
  gr : w.grownBy W none
theorem PO.kept {w W W' : World} {v : Value} {ps : List (Value × List UInt8)} (h : PO w W v ps) (hg : W.grownBy W' none) : PO w W' v ps :=
  ⟨owns_kept h.row hg (fun _ _ _ => by simp), fun p hp => (h.own p hp).kept hg (.inl rfl), grown_trans h.gr hg⟩
theorem PO.nil (w W : World) (h : w.grownBy W none) : PO w W (.slice none 0 0) [] := ⟨World.ownsRow_nil _ _ _ _, by simp, h⟩
theorem info24 : (Try.prog.info? 53).map (fun i => (i.zero, i.size, i.bytes)) = some (some (.slice none 0 0), 1, 24) := by kernel_rfl
theorem wp_part {w W : World} {v : Value} {ps : List (Value × List UInt8)} (h : PO w W v ps) (sv : Value) (l : List UInt8) (hsv : Own W w.heap.size sv l) (k : Nat) (hk : k = ps.length) (hl : k ≤ 1000000000) {ops : Array Oper} {rest : List Oper} {o : Oper} {a : Act} {Q : Exit → Act → World → Prop} (hgd : o.guard = none) (s y : Operand)
    (ho : o.op = .call { callee := .builtin .append, args := #[s, y], argTypes := #[48, 48] }) (hs : a.eval s = v) (hy : a.eval y = .slice (some ⟨W.heap.size, 0, none⟩) 1 1)
    (hc : ∀ a' c' W', Hid (PO w W' (.slice a' (k + 1) c') (ps ++ [(sv, l)])) → wpList Try.prog ops Q rest (a.put o.dst (.slice a' (k + 1) c')) W') :
    wpList Try.prog ops Q (o :: rest) a (W.alloc (.cells #[sv] 53)) := by
  subst hk
  obtain ⟨i0, hi, hz0, hz1, hz2⟩ := info_parts info24
  have hP := h.kept (World.grownBy_alloc W (.cells #[sv] 53) none)
  have hone : sv.oneCell' = true := by obtain ⟨_, _, rfl⟩ := hsv.len; rfl
  have hown := hsv.kept (World.grownBy_alloc W (.cells #[sv] 53) none) (.inl rfl)
  refine wpList_append_own_at _ hgd s y 48 ho w.heap.size 53 i0 (.slice none 0 0) 1 24 Try.underlying48 hi hz0 hz1 hz2 rfl (by decide) v ps.length (ps.map (·.1)) hs hP.row ⟨W.heap.size, 0, none⟩ 1 1 [sv] hy rfl (cell_one_new _ _ _) (by simp [hone]) (by unfold maxLen; omega) (by omega) hP.gr.size ?_
  intro v' w' hr hgr _ _
  obtain ⟨a', c', rfl⟩ := row_shape hr
  have hk : ∀ (x : Value) (d : List UInt8), Own (W.alloc (.cells #[sv] 53)) w.heap.size x d → Own w' w.heap.size x d := fun x d ho => owns_kept ho hgr (fun g cur hh => own_tag hP.row hh (by decide))
  refine hc a' c' w' (hid_mk ⟨?_, fun p hp => ?_, grown_row hP.gr hP.row hgr⟩)
  · rw [List.length_append, List.map_append]; exact hr
  · rcases List.mem_append.1 hp with hp | hp
    · exact hk _ _ (hP.own p hp)
    · obtain rfl : p = (sv, l) := by simpa using hp
      exact hk _ _ hown
theorem PO.parts {w W : World} {v : Value} {ps : List (Value × List UInt8)} (h : PO w W v ps) : Parts W v ps := by
  rcases h.row.2 with ⟨rfl, h0⟩ | ⟨g, cap, cur, rfl, hb, hg, h1, h2, h3, h4⟩
  · obtain rfl : ps = [] := List.length_eq_zero_iff.1 h0
    exact .inl ⟨rfl, none, 0, rfl, fun _ => rfl⟩
  · refine .inr ⟨g, 0, cap, rfl, h1, fun j p hj => ⟨?_, (h.own p (List.mem_of_getElem? hj)).byt⟩⟩
    have hj' : (ps.map (·.1))[j]? = some p.1 := by simp [hj]
    rw [← h4, List.getElem?_take] at hj'
    simp only [World.cell?, hg, Nat.zero_add]
    split at hj'
    · simpa using hj'
    · cases hj'


/-- append([]int{}, l...), as an operation. -/
theorem run_append_ints (w0 W : World) {o : Oper} {a : Act} (s y : Operand) (ho : o.op = .call { callee := .builtin .append, args := #[s, y], argTypes := #[43, 43] }) (hg0 : w0.grownBy W none)
    (v : Value) (hs : a.eval s = v) (hown : OwnI W w0.heap.size v []) (l : List Int) (sv : Value) (hy : a.eval y = sv) (h : IntsR W sv l) (hl : l.length ≤ 17592186044416) :
    ∃ a' c' W', (execOp a.eval o).run Try.prog W = .ok (.value (.slice a' l.length c')) W' ∧ OwnI W' w0.heap.size (.slice a' l.length c') l ∧ w0.grownBy W' none ∧ W.grownBy W' v.ownBlock := by
  obtain ⟨i0, hi, hz0, hz1, hz2⟩ := info_parts info3
  have hone : ∀ u ∈ i64s l, u.oneCell' = true := fun u hu => by
    obtain ⟨x, _, rfl⟩ := List.mem_map.1 hu; rfl
  have key : ∀ (ad : Addr) (n c : Nat), sv = .slice (some ad) n c → l.length = n → (∀ j u, (i64s l)[j]? = some u → W.cell? (ad.add j) = some u) →
      ∃ a' c' W', (execOp a.eval o).run Try.prog W = .ok (.value (.slice a' l.length c')) W' ∧ OwnI W' w0.heap.size (.slice a' l.length c') l ∧ w0.grownBy W' none ∧ W.grownBy W' v.ownBlock := by
    intro ad n c e hn hcl
    subst hn
    have hown' : W.ownsRow w0.heap.size 3 1 v 0 [] := hown
    obtain ⟨v', w', hrun, r1, r2, _, _⟩ := run_append_own_at (P := Try.prog) W w0.heap.size 43 o.type 3 i0 (.int .i64 0) 1 8 Try.underlying43 hi hz0 hz1 hz2 rfl (by decide) v 0 [] hown' ad l.length c (i64s l) (by simp [i64s]) hcl hone (by unfold maxLen; omega) (by omega) hg0.size
    simp only [Nat.zero_add, List.nil_append] at r1
    obtain ⟨a', c', rfl⟩ := row_shape r1
    refine ⟨a', c', w', ?_, r1, grown_row hg0 hown' r2, r2⟩
    rw [e] at hy
    simp [execOp, ho, resolve, invoke, builtin, hs, hy, hrun, Result.andThen]
  rcases h with ⟨rfl, a', cap', e, hn⟩ | ⟨b, off, cap', e, _, hcl⟩
  · cases a' with
    | none =>
      obtain rfl := hn rfl
      have hown' : W.ownsRow w0.heap.size 3 1 v 0 [] := hown
      have hrun := run_append_owned_none (P := Try.prog) W w0.heap.size 43 o.type 3 i0 1 Try.underlying43 hi v 0 [] hown'
      obtain ⟨a1, c1, rfl⟩ := row_shape hown'
      refine ⟨a1, c1, W, ?_, hown, hg0, grown_refl _ _⟩
      rw [e] at hy
      simp [execOp, ho, resolve, invoke, builtin, hs, hy, hrun, Result.andThen]
    | some ad => exact key ad 0 cap' e rfl (fun j u hj => by simp [i64s] at hj)
  · refine key ⟨b, off, none⟩ l.length cap' e rfl (fun j u hj => ?_)
    simp only [i64s, List.getElem?_map, Option.map_eq_some_iff] at hj
    obtain ⟨x, hx, rfl⟩ := hj
    rw [← hcl j x hx, addr_add]

/-! ### Entries of one's own -/
def entCells (p : Ent × Value) : List Value := [.int .i64 p.1.term, .int .i64 p.1.index, .int .i64 p.1.kind, p.2]
theorem entCells_at (es : List (Ent × Value)) : ∀ (j i : Nat) (p : Ent × Value), es[j]? = some p → i < 4 → (es.flatMap entCells)[j * 4 + i]? = (entCells p)[i]? := by
  induction es with
  | nil => intro j i p h; simp at h
  | cons q es ih =>
    intro j i p h hi
    rw [List.flatMap_cons]
    match j, h with
    | 0, h =>
      simp at h
      subst h
      rw [Nat.zero_mul, Nat.zero_add, List.getElem?_append_left (by simpa [entCells] using hi)]
    | j + 1, h =>
      rw [List.getElem?_append_right (by simp [entCells]; omega)]
      have := ih j i p (by simpa using h) hi
      rw [← this]
      congr 1
      simp [entCells]
      omega
theorem entCells_len (es : List (Ent × Value)) : (es.flatMap entCells).length = es.length * 4 := by
  induction es with
  | nil => rfl
  | cons q es ih => rw [List.flatMap_cons, List.length_append, ih, List.length_cons]; simp [entCells]; omega
structure EO (w W : World) (v : Value) (es : List (Ent × Value)) : Prop where
  row : W.ownsRow w.heap.size 55 4 v es.length (es.flatMap entCells)
  own : ∀ p ∈ es, Own W w.heap.size p.2 p.1.data ∧ p.1.data.length ≤ 140737488355328
  gr : w.grownBy W none
theorem EO.kept {w W W' : World} {v : Value} {es : List (Ent × Value)} (h : EO w W v es) (hg : W.grownBy W' none) : EO w W' v es :=
  ⟨owns_kept h.row hg (fun _ _ _ => by simp), fun p hp => ⟨(h.own p hp).1.kept hg (.inl rfl), (h.own p hp).2⟩, grown_trans h.gr hg⟩
theorem EO.nil {w W : World} (h : w.grownBy W none) : EO w W (.slice none 0 0) [] := ⟨World.ownsRow_nil _ _ _ _, by simp, h⟩
/-- A store into a block of another kind. -/
theorem EO.but {w W W' : World} {v : Value} {es : List (Ent × Value)} {b : Nat} {c : Array Value} {t : TypeId} {f : Nat × Nat} (h : EO w W v es) (hb : W.heap[b]? = some (.cells c t f)) (h47 : t ≠ 55) (h5 : t ≠ 5) (hlo : w.heap.size ≤ b) (hg : W.grownBy W' (some b)) : EO w W' v es :=
  ⟨owns_kept h.row hg (fun g cur hh => ne_tag hh hb (Ne.symm h47)), fun p hp => ⟨owns_kept (h.own p hp).1 hg (fun g cur hh => ne_tag hh hb (Ne.symm h5)), (h.own p hp).2⟩, grown_new h.gr hg hlo⟩
theorem EO.reads {w W : World} {v : Value} {es : List (Ent × Value)} (h : EO w W v es) : EntsR W v (es.map (·.1)) := by
  rcases h.row.2 with ⟨rfl, h0⟩ | ⟨g, cap, cur, rfl, hb, hg, h1, h2, h3, h4⟩
  · obtain rfl : es = [] := List.length_eq_zero_iff.1 h0
    exact EntsR.nil _
  · refine .inr ⟨g, 0, cap, by simp, by simpa using h1, fun j x hj => ?_⟩
    rw [List.getElem?_map, Option.map_eq_some_iff] at hj
    obtain ⟨p, hp, rfl⟩ := hj
    have hl : j < es.length := (List.getElem?_eq_some_iff.1 hp).1
    have key : ∀ i, i < 4 → W.cell? ⟨g, 0 + j * 4 + i, none⟩ = (entCells p)[i]? := fun i hi => by
      rw [← entCells_at es j i p hp hi, cell_of_row _ _ _ _ _ _ hg, ← h4, List.getElem?_take, if_pos (by omega), Nat.zero_add]
      simp
    obtain ⟨ho, hd⟩ := h.own p (List.mem_of_getElem? hp)
    refine ⟨p.2, ?_, ?_, ?_, ?_, ho.byt, hd⟩
    · have := key 0 (by omega); simpa [entCells] using this
    · have := key 1 (by omega); simpa [entCells] using this
    · have := key 2 (by omega); simpa [entCells] using this
    · have := key 3 (by omega); simpa [entCells] using this
theorem info47 : (Try.prog.info? 55).map (fun i => (i.zero, i.size, i.bytes)) = some (some (.agg #[.int .i64 0, .int .i64 0, .int .i64 0, .slice none 0 0]), 4, 48) := by kernel_rfl
theorem cell_four_new (w : World) (x0 x1 x2 x3 : Value) (t : TypeId) : ∀ j u, [x0, x1, x2, x3][j]? = some u → (w.alloc (.cells #[x0, x1, x2, x3] t)).cell? ((⟨w.heap.size, 0, none⟩ : Addr).add j) = some u := by
  intro j u hj
  rw [addr_add, Nat.zero_add, cell_of_row _ _ _ _ _ _ (heap_alloc_new w (.cells #[x0, x1, x2, x3] t))]
  match j, hj with
  | 0, hj => simpa using hj
  | 1, hj => simpa using hj
  | 2, hj => simpa using hj
  | 3, hj => simpa using hj
/-- append(entries, x), as an operation. -/
theorem run_append_ent {w W : World} {v : Value} {es : List (Ent × Value)} (h : EO w W v es) (x : Ent) (dv : Value) (ho : Own W w.heap.size dv x.data) (hd : x.data.length ≤ 140737488355328) (hl : (es.length + 1) * 48 ≤ 140737488355328) {o : Oper} {a : Act} (s y : Operand)
    (hop : o.op = .call { callee := .builtin .append, args := #[s, y], argTypes := #[24, 24] }) (hs : a.eval s = v) (hy : a.eval y = .slice (some ⟨W.heap.size, 0, none⟩) 1 1) :
    ∃ a' c' W', (execOp a.eval o).run Try.prog (W.alloc (.cells #[.int .i64 x.term, .int .i64 x.index, .int .i64 x.kind, dv] 55)) = .ok (.value (.slice a' (es.length + 1) c')) W' ∧ EO w W' (.slice a' (es.length + 1) c') (es ++ [(x, dv)]) ∧ (W.alloc (.cells #[.int .i64 x.term, .int .i64 x.index, .int .i64 x.kind, dv] 55)).grownBy W' v.ownBlock := by
  obtain ⟨i0, hi, hz0, hz1, hz2⟩ := info_parts info47
  have hg := World.grownBy_alloc W (.cells #[.int .i64 x.term, .int .i64 x.index, .int .i64 x.kind, dv] 55) none
  have hE := h.kept hg
  have hone : ∀ u ∈ entCells (x, dv), u.oneCell' = true := fun u hu => by
    obtain ⟨_, _, rfl⟩ := ho.len
    simp [entCells] at hu
    rcases hu with rfl | rfl | rfl | rfl <;> rfl
  obtain ⟨v', w', hrun, r1, r2, _, _⟩ := run_append_own_at (P := Try.prog) (W.alloc (.cells #[.int .i64 x.term, .int .i64 x.index, .int .i64 x.kind, dv] 55)) w.heap.size 24 o.type 55 i0 (.agg #[.int .i64 0, .int .i64 0, .int .i64 0, .slice none 0 0]) 4 48 Try.underlying24 hi hz0 hz1 hz2 rfl (by decide) v es.length (es.flatMap entCells) hE.row ⟨W.heap.size, 0, none⟩ 1 1 (entCells (x, dv)) rfl (cell_four_new _ _ _ _ _ _) hone (by unfold maxLen; omega) hl hE.gr.size
  obtain ⟨a', c', rfl⟩ := row_shape r1
  refine ⟨a', c', w', by simp [execOp, hop, resolve, invoke, builtin, hs, hy, hrun, Result.andThen], ⟨?_, fun p hp => ?_, grown_row hE.gr hE.row r2⟩, r2⟩
  · rw [List.length_append, List.flatMap_append]; simpa using r1
  · have hk : ∀ (z : Value) (d : List UInt8), Own (W.alloc (.cells #[.int .i64 x.term, .int .i64 x.index, .int .i64 x.kind, dv] 55)) w.heap.size z d → Own w' w.heap.size z d := fun z d hz => owns_kept hz r2 (fun g cur hh => own_tag hE.row hh (by decide))
    rcases List.mem_append.1 hp with hp | hp
    · exact ⟨hk _ _ (hE.own p hp).1, (hE.own p hp).2⟩
    · obtain rfl : p = (x, dv) := by simpa using hp
      exact ⟨hk _ _ (ho.kept hg (.inl rfl)), hd⟩


theorem ownI_empty (w : World) : OwnI (w.alloc (.cells #[] 3)) w.heap.size (.slice (some ⟨w.heap.size, 0, none⟩) 0 0) [] :=
  World.ownsRow_made (e := 3) (size := 1) (base := w.heap.size) w #[] 0 (Nat.le_refl _) (by unfold maxLen; omega) (by simp)
theorem wpList_append_ints (w0 W : World) {ops : Array Oper} {rest : List Oper} {o : Oper} {a : Act} {Q : Exit → Act → World → Prop} (hgd : o.guard = none) (s y : Operand) (ho : o.op = .call { callee := .builtin .append, args := #[s, y], argTypes := #[43, 43] }) (hg0 : w0.grownBy W none)
    (v : Value) (hs : a.eval s = v) (hown : OwnI W w0.heap.size v []) (l : List Int) (sv : Value) (hy : a.eval y = sv) (h : IntsR W sv l) (hl : l.length ≤ 17592186044416)
    (hK : ∀ a' c' W', Hid (OwnI W' w0.heap.size (.slice a' l.length c') l ∧ w0.grownBy W' none) → wpList Try.prog ops Q rest (a.put o.dst (.slice a' l.length c')) W') : wpList Try.prog ops Q (o :: rest) a W := by
  obtain ⟨a', c', W', hrun, r1, r2, _⟩ := run_append_ints w0 W s y ho hg0 v hs hown l sv hy h hl
  refine wpList_plain hgd fun K hK' => ?_
  unfold Oper.wp
  rw [hrun]
  exact hK' _ _ (hK a' c' W' (hid_mk ⟨r1, r2⟩))
theorem row_base {W : World} {B B' : Nat} {e : TypeId} {size : Nat} {v : Value} {n : Nat} {xs : List Value} (h : W.ownsRow B e size v n xs) (hb : B' ≤ B) : W.ownsRow B' e size v n xs := by
  refine ⟨h.1, ?_⟩
  rcases h.2 with hn | ⟨g, cap, cur, hv, hbg, rest⟩
  · exact .inl hn
  · exact .inr ⟨g, cap, cur, hv, Nat.le_trans hb hbg, rest⟩
/-- A store into a row of one's own. -/
theorem row_set {W : World} {B : Nat} {e : TypeId} {size g n cap : Nat} {xs : List Value} (h : W.ownsRow B e size (.slice (some ⟨g, 0, none⟩) n cap) n xs) (i : Nat) (u : Value) : (W.setCell ⟨g, i, none⟩ u).ownsRow B e size (.slice (some ⟨g, 0, none⟩) n cap) n (xs.set i u) := by
  rcases h.2 with ⟨e, _⟩ | ⟨g', cap', cur, e, hb, hg, h1, h2, h3, h4⟩
  · cases e
  · cases e
    refine ⟨by rw [List.length_set]; exact h.1, .inr ⟨g, cap, cur.setIfInBounds i u, rfl, hb, by simp [World.setCell, Array.getElem?_modify, hg], h1, h2, by simpa using h3, ?_⟩⟩
    rw [← h4, Array.toList_setIfInBounds, List.take_set]

/-- Entries in a row of one's own, the data of the first ones one's own, too; that of the others as it came. -/
structure EC (w W : World) (v : Value) (es : List (Ent × Value)) (i : Nat) : Prop where
  row : W.ownsRow w.heap.size 55 4 v es.length (es.flatMap entCells)
  old : ∀ k p, es[k]? = some p → i ≤ k → Byt w p.2 p.1.data
  own : ∀ k p, es[k]? = some p → k < i → Own W w.heap.size p.2 p.1.data
  len : ∀ p ∈ es, p.1.data.length ≤ 140737488355328
  gr : w.grownBy W none
theorem EC.kept {w W W' : World} {v : Value} {es : List (Ent × Value)} {i : Nat} (h : EC w W v es i) (hg : W.grownBy W' none) : EC w W' v es i :=
  ⟨owns_kept h.row hg (fun _ _ _ => by simp), h.old, fun k p hk hi => (h.own k p hk hi).kept hg (.inl rfl), h.len, grown_trans h.gr hg⟩
theorem EC.but {w W W' : World} {v : Value} {es : List (Ent × Value)} {i b : Nat} {c : Array Value} {t : TypeId} {f : Nat × Nat} (h : EC w W v es i) (hb : W.heap[b]? = some (.cells c t f)) (h47 : t ≠ 55) (h5 : t ≠ 5) (hlo : w.heap.size ≤ b) (hg : W.grownBy W' (some b)) : EC w W' v es i :=
  ⟨owns_kept h.row hg (fun g cur hh => ne_tag hh hb (Ne.symm h47)), h.old, fun k p hk hi => owns_kept (h.own k p hk hi) hg (fun g cur hh => ne_tag hh hb (Ne.symm h5)), h.len, grown_new h.gr hg hlo⟩
theorem EC.eo {w W : World} {v : Value} {es : List (Ent × Value)} (h : EC w W v es es.length) : EO w W v es :=
  ⟨h.row, fun p hp => by
    obtain ⟨k, hk⟩ := List.getElem?_of_mem hp
    exact ⟨h.own k p hk (List.getElem?_eq_some_iff.1 hk).1, h.len p hp⟩, h.gr⟩

theorem entCells_set : ∀ (es : List (Ent × Value)) (k : Nat) (x : Ent) (dv v' : Value), es[k]? = some (x, dv) → (es.set k (x, v')).flatMap entCells = (es.flatMap entCells).set (k * 4 + 3) v'
  | [], k, x, dv, v', h => by simp at h
  | q :: es, 0, x, dv, v', h => by
    simp at h
    subst h
    simp [entCells]
  | q :: es, k + 1, x, dv, v', h => by
    have ih := entCells_set es k x dv v' (by simpa using h)
    rw [List.set_cons_succ, List.flatMap_cons, List.flatMap_cons, ih, show (k + 1) * 4 + 3 = k * 4 + 3 + 4 by omega]
    simp [entCells]
theorem EC.at {w W : World} {v : Value} {es : List (Ent × Value)} {i : Nat} (h : EC w W v es i) (hn : 0 < es.length) : ∃ g cap cur, v = .slice (some ⟨g, 0, none⟩) es.length cap ∧ w.heap.size ≤ g ∧ W.heap[g]? = some (.cells cur 55 (0, 0)) ∧ es.length ≤ cap ∧ ∀ (k : Nat) p, es[k]? = some p → ∀ i, i < 4 → W.cell? ⟨g, k * 4 + i, none⟩ = (entCells p)[i]? := by
  rcases h.row.2 with ⟨rfl, h0⟩ | ⟨g, cap, cur, rfl, hb, hg, h1, h2, h3, h4⟩
  · omega
  · refine ⟨g, cap, cur, rfl, hb, hg, h1, fun k p hp i hi => ?_⟩
    have hl : k < es.length := (List.getElem?_eq_some_iff.1 hp).1
    rw [← entCells_at es k i p hp hi, cell_of_row _ _ _ _ _ _ hg, ← h4, List.getElem?_take, if_pos (by omega)]
    simp
theorem EC.set {w W : World} {g n cap : Nat} {es : List (Ent × Value)} {k : Nat} (h : EC w W (.slice (some ⟨g, 0, none⟩) n cap) es k) (x : Ent) (dv v' : Value) (hk : es[k]? = some (x, dv)) (ho : Own W w.heap.size v' x.data) : EC w (W.setCell ⟨g, k * 4 + 3, none⟩ v') (.slice (some ⟨g, 0, none⟩) n cap) (es.set k (x, v')) (k + 1) := by
  have hl : k < es.length := (List.getElem?_eq_some_iff.1 hk).1
  obtain ⟨g', cap', cur, e, hlo, hb, _, _⟩ := h.at (by omega)
  cases e
  have hG := grown_setCell W g (k * 4 + 3) v'
  have kp : ∀ (z : Value) (d : List UInt8), Own W w.heap.size z d → Own (W.setCell ⟨g, k * 4 + 3, none⟩ v') w.heap.size z d := fun z d hz => owns_kept hz hG (fun _ _ hh => ne_tag hh hb (by decide))
  refine ⟨?_, fun j p hp hj => ?_, fun j p hp hj => ?_, fun p hp => ?_, grown_new h.gr hG hlo⟩
  · rw [entCells_set es k x dv v' hk, List.length_set]; exact row_set h.row _ _
  · rw [List.getElem?_set_ne (by omega)] at hp; exact h.old j p hp (by omega)
  · by_cases hjk : j = k
    · subst hjk
      rw [List.getElem?_set_self hl] at hp
      cases hp
      exact kp _ _ ho
    · rw [List.getElem?_set_ne (Ne.symm hjk)] at hp
      exact kp _ _ (h.own j p hp (by omega))
  · rcases List.mem_or_eq_of_mem_set hp with hp | rfl
    · exact h.len p hp
    · exact h.len (x, dv) (List.mem_of_getElem? hk)
theorem EC.map_set {es : List (Ent × Value)} {k : Nat} {x : Ent} {dv : Value} (v' : Value) (hk : es[k]? = some (x, dv)) : (es.set k (x, v')).map (·.1) = es.map (·.1) := by
  apply List.ext_getElem?
  intro j
  rw [List.getElem?_map, List.getElem?_map]
  by_cases hj : j = k
  · subst hj
    rw [List.getElem?_set_self (List.getElem?_eq_some_iff.1 hk).1, hk]
    rfl
  · rw [List.getElem?_set_ne (Ne.symm hj)]

theorem ents_pick {W : World} {b : Nat} : ∀ (l : List Ent) (off : Nat), (∀ (i : Nat) x, l[i]? = some x → ∃ dv, W.cell? ⟨b, off + i * 4, none⟩ = some (.int .i64 x.term) ∧ W.cell? ⟨b, off + i * 4 + 1, none⟩ = some (.int .i64 x.index) ∧ W.cell? ⟨b, off + i * 4 + 2, none⟩ = some (.int .i64 x.kind) ∧ W.cell? ⟨b, off + i * 4 + 3, none⟩ = some dv ∧ Byt W dv x.data ∧ x.data.length ≤ 140737488355328) →
    ∃ es : List (Ent × Value), es.map (·.1) = l ∧ (∀ j u, (es.flatMap entCells)[j]? = some u → W.cell? ⟨b, off + j, none⟩ = some u) ∧ ∀ p ∈ es, Byt W p.2 p.1.data ∧ p.1.data.length ≤ 140737488355328
  | [], off, _ => ⟨[], rfl, fun j u h => by simp at h, fun p h => by cases h⟩
  | x :: r, off, h => by
    obtain ⟨dv, c0, c1, c2, c3, hb, hl⟩ := h 0 x rfl
    obtain ⟨es, h1, h2, h3⟩ := ents_pick r (off + 4) (fun i y hy => by
      have := h (i + 1) y hy
      rw [show off + (i + 1) * 4 = off + 4 + i * 4 by omega] at this
      exact this)
    refine ⟨(x, dv) :: es, by simp [h1], fun j u hj => ?_, fun p hp => ?_⟩
    · rw [List.flatMap_cons] at hj
      rw [Nat.zero_mul, Nat.add_zero] at c0 c1 c2 c3
      match j, hj with
      | 0, hj => simp [entCells] at hj; subst hj; exact c0
      | 1, hj => simp [entCells] at hj; subst hj; exact c1
      | 2, hj => simp [entCells] at hj; subst hj; exact c2
      | 3, hj => simp [entCells] at hj; subst hj; exact c3
      | j + 4, hj =>
        rw [List.getElem?_append_right (by simp [entCells])] at hj
        have := h2 j u (by simpa [entCells] using hj)
        rw [show off + (j + 4) = off + 4 + j by omega]
        exact this
    · rcases List.mem_cons.1 hp with rfl | hp
      · exact ⟨hb, hl⟩
      · exact h3 p hp

theorem wpList_append_ents (w : World) {ops : Array Oper} {rest : List Oper} {o : Oper} {a : Act} {Q : Exit → Act → World → Prop} (hgd : o.guard = none) (s y : Operand) (hop : o.op = .call { callee := .builtin .append, args := #[s, y], argTypes := #[24, 24] })
    (hs : a.eval s = .slice (some ⟨w.heap.size, 0, none⟩) 0 0) (es : List (Ent × Value)) (ad : Addr) (c : Nat) (hy : a.eval y = .slice (some ad) es.length c) (hc : ∀ j u, (es.flatMap entCells)[j]? = some u → w.cell? (ad.add j) = some u) (hb : ∀ p ∈ es, Byt w p.2 p.1.data) (hl : es.length * 48 ≤ 140737488355328)
    (hK : ∀ v' w', Hid (w'.ownsRow w.heap.size 55 4 v' es.length (es.flatMap entCells) ∧ w.grownBy w' none) → wpList Try.prog ops Q rest (a.put o.dst v') w') : wpList Try.prog ops Q (o :: rest) a (w.alloc (.cells #[] 55)) := by
  obtain ⟨i0, hi, hz0, hz1, hz2⟩ := info_parts info47
  have hg := World.grownBy_alloc w (.cells #[] 55) none
  have hown : (w.alloc (.cells #[] 55)).ownsRow w.heap.size 55 4 (.slice (some ⟨w.heap.size, 0, none⟩) 0 0) 0 [] := World.ownsRow_made (e := 55) (size := 4) (base := w.heap.size) w #[] 0 (Nat.le_refl _) (by unfold maxLen; omega) (by simp)
  have hone : ∀ u ∈ es.flatMap entCells, u.oneCell' = true := fun u hu => by
    obtain ⟨p, hp, hu⟩ := List.mem_flatMap.1 hu
    obtain ⟨_, _, e⟩ := (hb p hp).len
    simp [entCells, e] at hu
    rcases hu with rfl | rfl | rfl | rfl <;> rfl
  obtain ⟨v', w', hrun, r1, r2, _, _⟩ := run_append_own_at (P := Try.prog) (w.alloc (.cells #[] 55)) w.heap.size 24 o.type 55 i0 (.agg #[.int .i64 0, .int .i64 0, .int .i64 0, .slice none 0 0]) 4 48 Try.underlying24 hi hz0 hz1 hz2 rfl (by decide) (.slice (some ⟨w.heap.size, 0, none⟩) 0 0) 0 [] hown ad es.length c (es.flatMap entCells) (entCells_len es) (fun j u hj => hg.cell (hc j u hj) (by simp)) hone (by unfold maxLen; omega) (by omega) hg.size
  rw [Nat.zero_add, List.nil_append] at r1
  refine wpList_plain hgd fun K hK' => ?_
  unfold Oper.wp
  simp [execOp, hop, resolve, invoke, builtin, hs, hy, hrun, Result.andThen]
  exact hK' _ _ (hK v' w' (hid_mk ⟨r1, grown_row hg hown r2⟩))

end Go.Proofs.Ytcijjepleedecaa.W
