/- Reading a message: sure, asBool, readEntries. -/
import Derived.Test.YtliefofdlpljaaaDoorOwnP
import Derived.Test.YtliefofdlpljaaaDoorEntE
import Derived.Test.YtliefofdlpljaaaDoorSrvC
import Derived.Test.YtliefofdlpljaaaDoorGp
namespace Go.Proofs.YtliefofdlpljaaaDoor
open Go.RowKit Go.Maps
set_option linter.unusedVariables false
set_option linter.unusedSimpArgs false

theorem sureI_ok (v : Value) (w : World) : Calls Tryd.prog 58 #[v, .int .i64 0] w fun e w' => e = .returned v ∧ w' = w := by
  go_enter Tryd.func58, Tryd.ntmps58
  go_wp2_with (go_at_call 44; refine (need_ok _).mono ?_; rintro e wx ⟨rfl, hwx⟩; subst wx)
  go_ret
  exact ⟨rfl, rfl⟩
theorem sureI_no (v : Value) (x : Int) (w : World) (hx : ¬ x = 0) : Calls Tryd.prog 58 #[v, .int .i64 x] w fun e w' => e = .panicked upChain ∧ w' = w := by
  have h0 : (x == 0) = false := by simpa using hx
  go_enter Tryd.func58, Tryd.ntmps58
  go_wp2_with fail
  refine (need_no _).mono ?_
  rintro e wx ⟨rfl, rfl⟩
  go_wp2_with fail
  exact ⟨rfl, rfl, rfl⟩
theorem sureE_no (x : Ent) (a : Option Addr) (n c : Nat) (z : Int) (w : World) (hx : ¬ z = 0) : Calls Tryd.prog 72 #[entV x (.slice a n c), .int .i64 z] w fun e w' => e = .panicked upChain ∧ w.grownBy w' none := by
  have h0 : (z == 0) = false := by simpa using hx
  have HG := hid_mk (fun A B => grown_trans (World.grownBy_alloc w A none) (World.grownBy_alloc (w.alloc A) B none))
  unfold entV
  go_enter Tryd.func72, Tryd.ntmps72
  go_wp2_with fail
  refine (need_no _).mono ?_
  rintro e wx ⟨rfl, rfl⟩
  go_wp2_with fail
  exact ⟨rfl, rfl, HG.out _ _⟩
theorem sureE_ok (x : Ent) (a : Option Addr) (n c : Nat) (w : World) : Calls Tryd.prog 72 #[entV x (.slice a n c), .int .i64 0] w fun e w' => e = .returned (entV x (.slice a n c)) ∧ w.grownBy w' none := by
  have HF : Hid (((w.alloc (.cells #[.int .i64 x.term, .int .i64 x.index, .int .i64 x.kind, .slice a n c] 47)).alloc (.cells #[.int .i64 0, .int .i64 0, .int .i64 0, .slice none 0 0] 47)).heap[w.heap.size + 1]? = some (.cells #[.int .i64 0, .int .i64 0, .int .i64 0, .slice none 0 0] 47 (0, 0)) ∧ EB ((w.alloc (.cells #[.int .i64 x.term, .int .i64 x.index, .int .i64 x.kind, .slice a n c] 47)).alloc (.cells #[.int .i64 0, .int .i64 0, .int .i64 0, .slice none 0 0] 47)) w.heap.size x (.slice a n c) ∧ w.grownBy ((w.alloc (.cells #[.int .i64 x.term, .int .i64 x.index, .int .i64 x.kind, .slice a n c] 47)).alloc (.cells #[.int .i64 0, .int .i64 0, .int .i64 0, .slice none 0 0] 47)) none) := hid_mk (by
    have s1 : (w.alloc (.cells #[.int .i64 x.term, .int .i64 x.index, .int .i64 x.kind, .slice a n c] 47)).heap.size = w.heap.size + 1 := by simp
    have m1 : EB (w.alloc (.cells #[.int .i64 x.term, .int .i64 x.index, .int .i64 x.kind, .slice a n c] 47)) w.heap.size x (.slice a n c) := heap_alloc_new w _
    refine ⟨?_, m1.kept (World.grownBy_alloc _ _ _), grown_trans (World.grownBy_alloc _ _ _) (World.grownBy_alloc _ _ _)⟩
    rw [← s1]; exact heap_alloc_new _ _)
  unfold entV
  go_enter Tryd.func72, Tryd.ntmps72
  go_wp2_with fail
  generalize ((w.alloc (.cells _ 47)).alloc (.cells _ 47)) = w2 at *
  refine (need_ok _).mono ?_
  rintro e wx ⟨rfl, hwx⟩
  subst wx
  obtain ⟨c0, c1, c2, c3, _⟩ := HF.out.2.1.cells
  have hz : ∀ i, w2.frozen? ⟨w.heap.size + 1, i, none⟩ = false := fun i => by simp [World.frozen?, HF.out.1]
  have hc : ∀ i, w2.cell? ⟨w.heap.size + 1, i, none⟩ = (#[.int .i64 0, .int .i64 0, .int .i64 0, .slice none 0 0] : Array Value)[i]? := fun i => cell_of_row _ _ _ _ _ _ HF.out.1
  have z0 := hc 0
  have z1 := hc 1
  have z2 := hc 2
  have z3 := hc 3
  clear hc
  simp only [List.getElem?_toArray, List.getElem?_cons_zero, List.getElem?_cons_succ] at z0 z1 z2 z3
  go_wp2_with fail
  exact bodyPost_ret (ret_ent (fn := Tryd.f72) rfl _ _ (w.heap.size + 1) x (.slice a n c) rfl (ent_laid HF.out.1 x (.slice a n c))) rfl ⟨rfl, grown_new HF.out.2.2 (grown_ent _ _ _ _ _ _) (by omega)⟩

theorem asBool_any (n : Nat) (w : World) : Calls Tryd.prog 56 #[.int .i64 n] w fun e w' => w' = w ∧ ((n ≤ 1 ∧ e = .returned (.bool (decide (n = 1)))) ∨ (¬ n ≤ 1 ∧ e = .panicked upChain)) := by
  by_cases h0 : n = 0
  · subst h0
    go_enter Tryd.func56, Tryd.ntmps56
    go_wp2_with (go_at_call 44; refine (need_ok _).mono ?_; rintro e wx ⟨rfl, hwx⟩; subst wx)
    go_ret
    exact ⟨rfl, .inl ⟨by omega, rfl⟩⟩
  · by_cases h1 : n = 1
    · subst h1
      go_enter Tryd.func56, Tryd.ntmps56
      go_wp2_with (go_at_call 44; refine (need_ok _).mono ?_; rintro e wx ⟨rfl, hwx⟩; subst wx)
      go_ret
      exact ⟨rfl, .inl ⟨by omega, rfl⟩⟩
    · have e0 : ((n : Int) == 0) = false := by simpa using h0
      have e1 : ((n : Int) == 1) = false := by simp; omega
      go_enter Tryd.func56, Tryd.ntmps56
      go_wp2_with fail
      refine (need_no _).mono ?_
      rintro e wx ⟨rfl, hwx⟩
      subst wx
      go_wp2_with fail
      exact ⟨rfl, rfl, .inr ⟨by omega, rfl⟩⟩

/-- Entries of one's own, from a block on, whatever else turned. -/
structure EQ (B : Nat) (W : World) (v : Value) (es : List (Ent × Value)) : Prop where
  row : W.ownsRow B 47 4 v es.length (es.flatMap entCells)
  own : ∀ p ∈ es, Own W B p.2 p.1.data ∧ p.1.data.length ≤ 140737488355328
theorem EQ.kept {B : Nat} {W W' : World} {v : Value} {es : List (Ent × Value)} {r : Option Nat} (h : EQ B W v es) (hg : W.grownBy W' r) (hr : ∀ b, r = some b → ∃ c t f, W.heap[b]? = some (.cells c t f) ∧ t ≠ 47 ∧ t ≠ 5) : EQ B W' v es := by
  have key : ∀ (t' : TypeId), t' = 47 ∨ t' = 5 → ∀ g cur, W.heap[g]? = some (.cells cur t' (0, 0)) → some g ≠ r := fun t' ht g cur hh e => by
    obtain ⟨c, t, f, hb, h1, h2⟩ := hr g e.symm
    rw [hh] at hb
    cases hb
    rcases ht with rfl | rfl
    · exact h1 rfl
    · exact h2 rfl
  exact ⟨owns_kept h.row hg (key 47 (.inl rfl)), fun p hp => ⟨owns_kept (h.own p hp).1 hg (key 5 (.inr rfl)), (h.own p hp).2⟩⟩
theorem EQ.nil (B : Nat) (W : World) : EQ B W (.slice none 0 0) [] := ⟨World.ownsRow_nil _ _ _ _, by simp⟩
theorem EQ.reads {B : Nat} {W : World} {v : Value} {es : List (Ent × Value)} (h : EQ B W v es) : EntsR W v (es.map (·.1)) := by
  rcases h.row.2 with ⟨rfl, h0⟩ | ⟨g, cap, cur, rfl, hb, hg, h1, h2, h3, h4⟩
  · obtain rfl : es = [] := List.length_eq_zero_iff.1 h0
    exact EntsR.nil _
  · refine .inr ⟨g, 0, cap, by simp, by simpa using h1, fun j x hj => ?_⟩
    rw [List.getElem?_map, Option.map_eq_some_iff] at hj
    obtain ⟨p, hp, rfl⟩ := hj
    have hl : j < es.length := (List.getElem?_eq_some_iff.1 hp).1
    have key : ∀ i, i < 4 → W.cell? ⟨g, 0 + j * 4 + i, none⟩ = (entCells p)[i]? := fun i hi => by
      rw [← entCells_at es j i p hp hi, cell_of_row _ _ _ _ _ _ hg, ← h4, List.getElem?_take, if_pos (by omega), Nat.zero_add]
      simp
    obtain ⟨ho, hd⟩ := h.own p (List.mem_of_getElem? hp)
    refine ⟨p.2, ?_, ?_, ?_, ?_, ho.byt, hd⟩
    · have := key 0 (by omega); simpa [entCells] using this
    · have := key 1 (by omega); simpa [entCells] using this
    · have := key 2 (by omega); simpa [entCells] using this
    · have := key 3 (by omega); simpa [entCells] using this
/-- append(l, x). -/
theorem wp_ent {B : Nat} {W : World} {v : Value} {es : List (Ent × Value)} (h : EQ B W v es) (hB : B ≤ W.heap.size) (x : Ent) (a3 : Option Addr) (n3 c3 : Nat) (ho : Own W B (.slice a3 n3 c3) x.data) (hd : x.data.length ≤ 140737488355328) (k : Nat) (hk : k = es.length) (hl : (k + 1) * 48 ≤ 140737488355328)
    {ops : Array Oper} {rest : List Oper} {o : Oper} {a : Act} {Q : Exit → Act → World → Prop} (hgd : o.guard = none) (s y : Operand) (hop : o.op = .call { callee := .builtin .append, args := #[s, y], argTypes := #[22, 22] }) (hs : a.eval s = v) (hy : a.eval y = .slice (some ⟨W.heap.size, 0, none⟩) 1 1)
    (hc : ∀ a' c' W', Hid (EQ B W' (.slice a' (k + 1) c') (es ++ [(x, .slice a3 n3 c3)]) ∧ (W.alloc (.cells #[.int .i64 x.term, .int .i64 x.index, .int .i64 x.kind, .slice a3 n3 c3] 47)).grownBy W' v.ownBlock) → wpList Tryd.prog ops Q rest (a.put o.dst (.slice a' (k + 1) c')) W') :
    wpList Tryd.prog ops Q (o :: rest) a (W.alloc (.cells #[.int .i64 x.term, .int .i64 x.index, .int .i64 x.kind, .slice a3 n3 c3] 47)) := by
  subst hk
  obtain ⟨i0, hi, hz0, hz1, hz2⟩ := info_parts info47
  have hg := World.grownBy_alloc W (.cells #[.int .i64 x.term, .int .i64 x.index, .int .i64 x.kind, .slice a3 n3 c3] 47) none
  have hE := h.kept hg (fun b e => by cases e)
  have hO := ho.kept hg (.inl rfl)
  refine wpList_append_own_at _ hgd s y 22 hop B 47 i0 (.agg #[.int .i64 0, .int .i64 0, .int .i64 0, .slice none 0 0]) 4 48 Tryd.underlying22 hi hz0 hz1 hz2 rfl (by decide) v es.length (es.flatMap entCells) hs hE.row ⟨W.heap.size, 0, none⟩ 1 1 (entCells (x, .slice a3 n3 c3)) hy rfl (cell_four_new _ _ _ _ _ _) (fun u hu => by simp [entCells] at hu; rcases hu with rfl | rfl | rfl | rfl <;> rfl) (by unfold maxLen; omega) hl (Nat.le_trans hB hg.size) ?_
  intro v' w' r1 r2 _ _
  obtain ⟨a', c', rfl⟩ := row_shape r1
  have hk : ∀ (z : Value) (d : List UInt8), Own (W.alloc (.cells #[.int .i64 x.term, .int .i64 x.index, .int .i64 x.kind, .slice a3 n3 c3] 47)) B z d → Own w' B z d := fun z d hz => owns_kept hz r2 (fun g cur hh => own_tag hE.row hh (by decide))
  refine hc a' c' w' (hid_mk ⟨⟨?_, fun p hp => ?_⟩, r2⟩)
  · rw [List.length_append, List.flatMap_append]; simpa using r1
  · rcases List.mem_append.1 hp with hp | hp
    · exact ⟨hk _ _ (hE.own p hp).1, (hE.own p hp).2⟩
    · obtain rfl : p = (x, .slice a3 n3 c3) := by simpa using hp
      exact ⟨hk _ _ hO, hd⟩
theorem Rd.tag {w : World} {M N b : Nat} {s : St} (h : Rd w M N b s) : ∃ c t f, w.heap[b]? = some (.cells c t f) ∧ t ≠ 47 ∧ t ≠ 5 := by
  obtain ⟨_, _, rv, hb, _⟩ := h
  exact ⟨_, _, _, hb, by decide, by decide⟩

end Go.Proofs.YtliefofdlpljaaaDoor
