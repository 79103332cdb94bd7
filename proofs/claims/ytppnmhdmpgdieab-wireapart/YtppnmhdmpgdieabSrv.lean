/- Rows of ints of one's own; lists of servers: the document's. -/
import Derived.Test.YtppnmhdmpgdieabBackA
import Derived.Test.YtppnmhdmpgdieabMixB
namespace Go.Proofs.Ytppnmhdmpgdieab
open Go.RowKit Go.Maps
set_option linter.unusedVariables false
set_option linter.unusedSimpArgs false

def i64s (l : List Int) : List Value := l.map fun x => .int .i64 x
def OwnI (w : World) (B : Nat) (v : Value) (l : List Int) : Prop := w.ownsRow B 3 1 v l.length (i64s l)
theorem OwnI.len {w : World} {B : Nat} {v : Value} {l : List Int} (h : OwnI w B v l) : ∃ a c, v = .slice a l.length c := row_shape h
theorem OwnI.kept {w w' : World} {B : Nat} {v : Value} {l : List Int} (h : OwnI w B v l) (hg : w.grownBy w' none) : OwnI w' B v l := owns_kept h hg (fun _ _ _ => by simp)
theorem OwnI.base {w : World} {B B' : Nat} {v : Value} {l : List Int} (h : OwnI w B v l) (hb : B' ≤ B) : OwnI w B' v l := by
  refine ⟨h.1, ?_⟩
  rcases h.2 with hn | ⟨g, cap, cur, hv, hbg, rest⟩
  · exact .inl hn
  · exact .inr ⟨g, cap, cur, hv, by omega, rest⟩
theorem OwnI.ints {w : World} {B : Nat} {v : Value} {l : List Int} (h : OwnI w B v l) : IntsR w v l := by
  rcases h.2 with ⟨rfl, h0⟩ | ⟨g, cap, cur, hv, hb, hg, h1, h2, h3, h4⟩
  · obtain rfl : l = [] := List.length_eq_zero_iff.1 h0
    exact IntsR.nil w
  · refine .inr ⟨g, 0, cap, hv, h1, fun j x hj => ?_⟩
    have hj' : (i64s l)[j]? = some (.int .i64 x) := by simp [i64s, hj]
    rw [← h4, List.getElem?_take] at hj'
    rw [cell_of_row _ _ _ _ _ _ hg]
    split at hj'
    · simpa using hj'
    · cases hj'
theorem OwnI.nil (w : World) (B : Nat) : OwnI w B (.slice none 0 0) [] := World.ownsRow_nil _ _ _ _
/-- append(l, x). -/
theorem wp_appi {w W : World} {v : Value} {l : List Int} (hgr : w.grownBy W none) (h : OwnI W w.heap.size v l) (z : Int) (k : Nat) (hk : k = l.length) (hl : k ≤ 1000000000) {ops : Array Oper} {rest : List Oper} {o : Oper} {a : Act} {Q : Exit → Act → World → Prop} (hgd : o.guard = none) (s y : Operand)
    (ho : o.op = .call { callee := .builtin .append, args := #[s, y], argTypes := #[25, 25] }) (hs : a.eval s = v) (hy : a.eval y = .slice (some ⟨W.heap.size, 0, none⟩) 1 1)
    (hc : ∀ a' c' W', Hid (OwnI W' w.heap.size (.slice a' (k + 1) c') (l ++ [z]) ∧ w.grownBy W' none ∧ (W.alloc (.cells #[.int .i64 z] 3)).grownBy W' v.ownBlock) → wpList Try.prog ops Q rest (a.put o.dst (.slice a' (k + 1) c')) W') :
    wpList Try.prog ops Q (o :: rest) a (W.alloc (.cells #[.int .i64 z] 3)) := by
  subst hk
  obtain ⟨i0, hi, hz0, hz1, hz2⟩ := info_parts info3
  have hw := h.kept (World.grownBy_alloc W (.cells #[.int .i64 z] 3) none)
  refine wpList_append_own_at _ hgd s y 25 ho w.heap.size 3 i0 (.int .i64 0) 1 8 Try.underlying25 hi hz0 hz1 hz2 rfl (by decide) v l.length (i64s l) hs hw ⟨W.heap.size, 0, none⟩ 1 1 [.int .i64 z] hy rfl (cell_one_new _ _ _) (by simp [Value.oneCell']) (by unfold maxLen; omega) (by omega) (by have := hgr.size; simp; omega) ?_
  intro v' w' hown hgr2 _ _
  obtain ⟨a', c', rfl⟩ := row_shape hown
  refine hc a' c' w' (hid_mk ⟨?_, grown_row (grown_trans hgr (World.grownBy_alloc W (.cells #[.int .i64 z] 3) none)) hw hgr2, hgr2⟩)
  unfold OwnI
  rw [List.length_append, show i64s (l ++ [z]) = i64s l ++ [.int .i64 z] by simp [i64s]]
  exact hown
/-- append([]int{}, l...). -/
theorem wp_copyi {w W : World} {v : Value} {l : List Int} (hgr : w.grownBy W none) (h : IntsR W v l) (hl : l.length ≤ 17592186044416) {ops : Array Oper} {rest : List Oper} {o : Oper} {a : Act} {Q : Exit → Act → World → Prop} (hgd : o.guard = none) (s y : Operand)
    (ho : o.op = .call { callee := .builtin .append, args := #[s, y], argTypes := #[25, 25] }) (hs : a.eval s = .slice (some ⟨W.heap.size, 0, none⟩) 0 0) (hy : a.eval y = v)
    (hc : ∀ a' c' W', Hid (OwnI W' w.heap.size (.slice a' l.length c') l ∧ w.grownBy W' none) → wpList Try.prog ops Q rest (a.put o.dst (.slice a' l.length c')) W') :
    wpList Try.prog ops Q (o :: rest) a (W.alloc (.cells #[] 3)) := by
  obtain ⟨i0, hi, hz0, hz1, hz2⟩ := info_parts info3
  have hown : (W.alloc (.cells #[] 3)).ownsRow w.heap.size 3 1 (.slice (some ⟨W.heap.size, 0, none⟩) 0 0) 0 [] :=
    World.ownsRow_made (e := 3) (size := 1) (base := w.heap.size) W #[] 0 hgr.size (by unfold maxLen; omega) (by simp)
  have hg1 : w.grownBy (W.alloc (.cells #[] 3)) none := grown_trans hgr (World.grownBy_alloc _ _ none)
  have hone : ∀ u ∈ i64s l, u.oneCell' = true := fun u hu => by
    obtain ⟨x, _, rfl⟩ := List.mem_map.1 hu; rfl
  have h' := h.kept (World.grownBy_alloc W (.cells #[] 3) none)
  obtain ⟨av, cv, rfl⟩ := h.len
  by_cases h0 : 0 < l.length
  · obtain ⟨b, off, cap, e, _, hcl⟩ := h'.at h0
    cases e
    refine wpList_append_own_at _ hgd s y 25 ho w.heap.size 3 i0 (.int .i64 0) 1 8 Try.underlying25 hi hz0 hz1 hz2 rfl (by decide) _ 0 [] hs hown ⟨b, off, none⟩ l.length cv (i64s l) hy (by simp [i64s]) (fun j u hj => ?_) hone (by unfold maxLen; omega) (by omega) hg1.size ?_
    · simp only [i64s, List.getElem?_map, Option.map_eq_some_iff] at hj
      obtain ⟨x, hx, rfl⟩ := hj
      rw [← hcl j x hx]; congr 1; unfold Addr.add; split <;> simp_all
    · intro v' w' hown' hgr2 _ _
      simp only [Nat.zero_add, List.nil_append] at hown'
      obtain ⟨a', c', rfl⟩ := row_shape hown'
      exact hc a' c' w' (hid_mk ⟨hown', grown_row hg1 hown hgr2⟩)
  · obtain rfl : l = [] := List.length_eq_zero_iff.1 (by omega)
    rcases h' with ⟨_, a', cap', e, hn⟩ | ⟨b, off, cap', e, _⟩
    · cases e
      cases av with
      | none =>
        obtain rfl := hn rfl
        refine wpList_plain hgd fun K hK' => ?_
        have hrun := run_append_owned_none (P := Try.prog) (W.alloc (.cells #[] 3)) w.heap.size 25 o.type 3 i0 1 Try.underlying25 hi _ 0 [] hown
        unfold Oper.wp
        simp [execOp, ho, resolve, invoke, builtin, hs, hy, hrun, Result.andThen]
        exact hK' _ _ (hc (some ⟨W.heap.size, 0, none⟩) 0 _ (hid_mk ⟨hown, hg1⟩))
      | some ad =>
        refine wpList_append_own_at _ hgd s y 25 ho w.heap.size 3 i0 (.int .i64 0) 1 8 Try.underlying25 hi hz0 hz1 hz2 rfl (by decide) _ 0 [] hs hown ad 0 cv [] hy (by simp) (fun j u hj => by simp at hj) (by simp) (by unfold maxLen; omega) (by omega) hg1.size ?_
        intro v' w' hown' hgr2 _ _
        simp only [Nat.zero_add, List.nil_append] at hown'
        obtain ⟨a', c', rfl⟩ := row_shape hown'
        exact hc a' c' w' (hid_mk ⟨hown', grown_row hg1 hown hgr2⟩)
    · cases e
      refine wpList_append_own_at _ hgd s y 25 ho w.heap.size 3 i0 (.int .i64 0) 1 8 Try.underlying25 hi hz0 hz1 hz2 rfl (by decide) _ 0 [] hs hown ⟨b, off, none⟩ 0 cv [] hy (by simp) (fun j u hj => by simp at hj) (by simp) (by unfold maxLen; omega) (by omega) hg1.size ?_
      intro v' w' hown' hgr2 _ _
      simp only [Nat.zero_add, List.nil_append] at hown'
      obtain ⟨a', c', rfl⟩ := row_shape hown'
      exact hc a' c' w' (hid_mk ⟨hown', grown_row hg1 hown hgr2⟩)

/-! ### RightServers -/
theorem prev_ge {l : List Int} : ∀ {k : Nat} {p : Int}, Rising p l → -1 ≤ p → ∀ (h : k < l.length), 0 ≤ l[k] := by
  intro k p h hp hk
  exact (rising_mem h hp l[k] (List.getElem_mem hk)).1

end Go.Proofs.Ytppnmhdmpgdieab
