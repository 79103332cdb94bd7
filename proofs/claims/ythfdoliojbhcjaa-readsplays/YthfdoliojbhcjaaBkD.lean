/- reads: rows of reads; a book; mayBe, made, alone, New. -/
import Derived.Test.YthfdoliojbhcjaaBkC
namespace Go.Proofs.Ythfdoliojbhcjaa
open Go.RowKit Go.Maps
set_option linter.unusedVariables false
set_option linter.unusedSimpArgs false
set_option maxRecDepth 100000

/-! ### Rows of structs -/
structure Rd where
  id : Int
  ix : Int
  rd : Int
def rdC (r : Rd) : List Value := [.int .i64 r.id, .int .i64 r.ix, .int .i64 r.rd]
def rds (l : List Rd) : List Value := l.flatMap rdC
def ryC (r : Rd) : List Value := [.int .i64 r.id, .int .i64 r.ix]
def rys (l : List Rd) : List Value := l.flatMap ryC
theorem rds_snoc (l : List Rd) (r : Rd) : rds (l ++ [r]) = rds l ++ rdC r := by simp [rds]
theorem rys_snoc (l : List Rd) (r : Rd) : rys (l ++ [r]) = rys l ++ ryC r := by simp [rys]
def OwnR (t : TypeId) (w : World) (B : Nat) (v : Value) (l : List Rd) : Prop := w.ownsRow B t 3 v l.length (rds l)
def OwnY (t : TypeId) (w : World) (B : Nat) (v : Value) (l : List Rd) : Prop := w.ownsRow B t 2 v l.length (rys l)
theorem rds_at : ∀ (l : List Rd) (k : Nat) (hk : k < l.length) (j : Nat), j < 3 → (rds l)[k * 3 + j]? = (rdC l[k])[j]?
  | [], k, hk, _, _ => by simp at hk
  | r :: l, 0, hk, j, hj => by
    show (rdC r ++ rds l)[0 * 3 + j]? = _
    rw [List.getElem?_append_left (by simp [rdC]; omega)]
    simp
  | r :: l, k + 1, hk, j, hj => by
    show (rdC r ++ rds l)[(k + 1) * 3 + j]? = _
    rw [List.getElem?_append_right (by simp [rdC]; omega), show (k + 1) * 3 + j - (rdC r).length = k * 3 + j by simp [rdC]; omega, rds_at l k (by simpa using hk) j hj]
    rfl
theorem rys_at : ∀ (l : List Rd) (k : Nat) (hk : k < l.length) (j : Nat), j < 2 → (rys l)[k * 2 + j]? = (ryC l[k])[j]?
  | [], k, hk, _, _ => by simp at hk
  | r :: l, 0, hk, j, hj => by
    show (ryC r ++ rys l)[0 * 2 + j]? = _
    rw [List.getElem?_append_left (by simp [ryC]; omega)]
    simp
  | r :: l, k + 1, hk, j, hj => by
    show (ryC r ++ rys l)[(k + 1) * 2 + j]? = _
    rw [List.getElem?_append_right (by simp [ryC]; omega), show (k + 1) * 2 + j - (ryC r).length = k * 2 + j by simp [ryC]; omega, rys_at l k (by simpa using hk) j hj]
    rfl
theorem owns_cell {W : World} {B : Nat} {e : TypeId} {size : Nat} {v : Value} {n : Nat} {xs : List Value} (h : W.ownsRow B e size v n xs) (h0 : 0 < n) : ∃ g cap, v = .slice (some ⟨g, 0, none⟩) n cap ∧ B ≤ g ∧ v.ownBlock = some g ∧ ∀ (j : Nat) x, xs[j]? = some x → W.cell? ⟨g, j, none⟩ = some x := by
  rcases h.2 with ⟨rfl, hn⟩ | ⟨g, cap, cur, hv, hb, hg, h1, h2, h3, h4⟩
  · omega
  · refine ⟨g, cap, hv, hb, by rw [hv]; rfl, fun j x hj => ?_⟩
    rw [← h4, List.getElem?_take] at hj
    rw [cell_of_row _ _ _ _ _ _ hg]
    split at hj
    · simpa using hj
    · cases hj
theorem OwnR.get {t : TypeId} {w : World} {B : Nat} {v : Value} {l : List Rd} (h : OwnR t w B v l) (k : Nat) (hk : k < l.length) : ∃ g cap, v = .slice (some ⟨g, 0, none⟩) l.length cap ∧ w.cell? ⟨g, k * 3, none⟩ = some (.int .i64 l[k].id) ∧ w.cell? ⟨g, k * 3 + 1, none⟩ = some (.int .i64 l[k].ix) ∧ w.cell? ⟨g, k * 3 + 2, none⟩ = some (.int .i64 l[k].rd) := by
  obtain ⟨g, cap, hv, _, _, hc⟩ := owns_cell h (by omega)
  exact ⟨g, cap, hv, hc _ _ (rds_at l k hk 0 (by omega)), hc _ _ (rds_at l k hk 1 (by omega)), hc _ _ (rds_at l k hk 2 (by omega))⟩
theorem OwnY.get {t : TypeId} {w : World} {B : Nat} {v : Value} {l : List Rd} (h : OwnY t w B v l) (k : Nat) (hk : k < l.length) : ∃ g cap, v = .slice (some ⟨g, 0, none⟩) l.length cap ∧ w.cell? ⟨g, k * 2, none⟩ = some (.int .i64 l[k].id) ∧ w.cell? ⟨g, k * 2 + 1, none⟩ = some (.int .i64 l[k].ix) := by
  obtain ⟨g, cap, hv, _, _, hc⟩ := owns_cell h (by omega)
  exact ⟨g, cap, hv, hc _ _ (rys_at l k hk 0 (by omega)), hc _ _ (rys_at l k hk 1 (by omega))⟩
theorem info66 : (Try.prog.info? 66).map (fun i => (i.zero, i.size, i.bytes)) = some (some (.agg #[.int .i64 0, .int .i64 0, .int .i64 0]), 3, 24) := by kernel_rfl
theorem info72 : (Try.prog.info? 72).map (fun i => (i.zero, i.size, i.bytes)) = some (some (.agg #[.int .i64 0, .int .i64 0, .int .i64 0]), 3, 24) := by kernel_rfl
theorem info50 : (Try.prog.info? 50).map (fun i => (i.zero, i.size, i.bytes)) = some (some (.agg #[.int .i64 0, .int .i64 0]), 2, 16) := by kernel_rfl
theorem info73 : (Try.prog.info? 73).map (fun i => (i.zero, i.size, i.bytes)) = some (some (.agg #[.int .i64 0, .int .i64 0]), 2, 16) := by kernel_rfl
/-- append(l, x), x a struct. -/
theorem wp_appG {w W : World} {v : Value} {n : Nat} {xs : List Value} {t st : TypeId} {sz by' : Nat} {z : Value} (hu : Try.prog.underlying st = some (.slice t)) (hi : (Try.prog.info? t).map (fun i => (i.zero, i.size, i.bytes)) = some (some z, sz, by')) (hz : z.cells.size = sz) (h0 : 0 < sz) (hby : by' ≤ 24)
    (hgr : w.grownBy W none) (h : W.ownsRow w.heap.size t sz v n xs) (news : List Value) (hln : news.length = sz) (hone : ∀ u ∈ news, u.oneCell' = true) (hl : n ≤ 1000000) {ops : Array Oper} {rest : List Oper} {o : Oper} {a : Act} {Q : Exit → Act → World → Prop} (hgd : o.guard = none) (s y : Operand)
    (ho : o.op = .call { callee := .builtin .append, args := #[s, y], argTypes := #[st, st] }) (hs : a.eval s = v) (hy : a.eval y = .slice (some ⟨W.heap.size, 0, none⟩) 1 1)
    (hc : ∀ a' c' W', Hid (W'.ownsRow w.heap.size t sz (.slice a' (n + 1) c') (n + 1) (xs ++ news) ∧ w.grownBy W' none ∧ W.grownBy W' v.ownBlock ∧ ((Value.slice a' (n + 1) c').ownBlock = v.ownBlock ∨ (Value.slice a' (n + 1) c').ownBlock = some (W.heap.size + 1))) → wpList Try.prog ops Q rest (a.put o.dst (.slice a' (n + 1) c')) W') :
    wpList Try.prog ops Q (o :: rest) a (W.alloc (.cells news.toArray t)) := by
  obtain ⟨i0, hi, hz0, hz1, hz2⟩ := info_parts hi
  have hgA := World.grownBy_alloc W (.cells news.toArray t) none
  have hw : (W.alloc (.cells news.toArray t)).ownsRow w.heap.size t sz v n xs := owns_kept h hgA (fun _ _ _ => by simp)
  have hb24 : (n + 1) * by' ≤ (n + 1) * 24 := Nat.mul_le_mul_left _ hby
  refine wpList_append_own_at _ hgd s y st ho w.heap.size t i0 z sz by' hu hi hz0 hz1 hz2 hz h0 v n xs hs hw ⟨W.heap.size, 0, none⟩ 1 1 news hy (by rw [hln, Nat.one_mul]) (fun j u hj => ?_) hone (by unfold maxLen; omega) (by omega) (by have := hgr.size; simp; omega) ?_
  · have e : (⟨W.heap.size, 0, none⟩ : Addr).add j = ⟨W.heap.size, j, none⟩ := by unfold Addr.add; split <;> simp_all
    rw [e, cell_of_row _ _ _ _ _ _ (heap_alloc_new W _)]
    simpa using hj
  · intro v' w' hown hgr2 _ hbl
    obtain ⟨a', c', rfl⟩ := row_shape hown
    refine hc a' c' w' (hid_mk ⟨hown, grown_row (grown_trans hgr hgA) hw hgr2, grown_trans (grown_any hgA _) hgr2, ?_⟩)
    simpa using hbl
def bkL (me : Nat) (H : List Int) (v : Value) : List Value := .int .i64 me :: (i64s H ++ [v])
structure Bk where
  me : Nat
  H : List Int
  L : List Rd
structure OkB (g : Bk) : Prop where
  me : g.me < 16
  len : g.H.length = 16
  always : g.H[g.me]? = some 9223372036854775807
  wf : ∀ x ∈ g.H, -1 ≤ x ∧ x ≤ 9223372036854775807
  few : g.L.length ≤ 100
  rds : ∀ r ∈ g.L, 0 ≤ r.rd ∧ r.rd ≤ 9223372036854775807
/-- A book, in blocks from B on. -/
structure IsB (w : World) (B b : Nat) (v : Value) (g : Bk) : Prop where
  blk : Blk w b (bkL g.me g.H v).toArray 45
  row : OwnR 66 w B v g.L
  low : B ≤ b
  ok : OkB g
theorem IsB.c0 {w : World} {B b : Nat} {v : Value} {g : Bk} (h : IsB w B b v g) : w.cell? ⟨b, 0, none⟩ = some (.int .i64 g.me) := by rw [h.blk.cell]; rfl
theorem IsB.cH {w : World} {B b : Nat} {v : Value} {g : Bk} (h : IsB w B b v g) {k : Nat} {x : Int} (hk : g.H[k]? = some x) : w.cell? ⟨b, 1 + k, none⟩ = some (.int .i64 x) := by
  have hl : k < g.H.length := (List.getElem?_eq_some_iff.1 hk).1
  rw [h.blk.cell, Nat.add_comm]
  simp [bkL, i64s, List.getElem?_append, hl, hk]
  exact (List.getElem?_eq_some_iff.1 hk).2
theorem IsB.c17 {w : World} {B b : Nat} {v : Value} {g : Bk} (h : IsB w B b v g) : w.cell? ⟨b, 17, none⟩ = some v := by
  rw [h.blk.cell]
  simp [bkL, i64s, List.getElem?_append, h.ok.len]
theorem IsB.range {w : World} {B b : Nat} {v : Value} {g : Bk} (h : IsB w B b v g) : w.rangeAt b 1 (i64s g.H) := fun j u hj => by
  simp only [i64s, List.getElem?_map, Option.map_eq_some_iff] at hj
  obtain ⟨x, hx, rfl⟩ := hj
  exact h.cH hx
theorem IsB.kept {w w' : World} {B b : Nat} {v : Value} {g : Bk} (h : IsB w B b v g) (hg : w.grownBy w' none) : IsB w' B b v g := ⟨h.blk.kept hg (by simp), owns_kept h.row hg (fun _ _ _ => by simp), h.low, h.ok⟩
theorem IsB.drew {w : World} {B b : Nat} {v : Value} {g : Bk} (h : IsB w B b v g) (n : Nat) : IsB (w.drewN n) B b v g := h.kept (grown_drewN w n none)
theorem IsB.len {w : World} {B b : Nat} {v : Value} {g : Bk} (h : IsB w B b v g) : ∃ a c, v = .slice a g.L.length c := row_shape h.row
theorem mayBe_any (n : Int) (w : World) : Calls Try.prog 19 #[.int .i64 n] w fun e w' => e = .returned (.bool (decide (0 ≤ n ∧ n < 16))) ∧ w' = w := by
  by_cases h0 : 0 ≤ n
  · by_cases h1 : n < 16
    · rw [decide_eq_true (show 0 ≤ n ∧ n < 16 from ⟨h0, h1⟩)]
      go_enter Try.func19, Try.ntmps19
      go_wp2
      go_ret
      exact ⟨rfl, rfl⟩
    · rw [decide_eq_false (show ¬ (0 ≤ n ∧ n < 16) from fun h => h1 h.2)]
      have X := hid_mk (show decide (n < 16) = false from decide_eq_false h1)
      go_enter Try.func19, Try.ntmps19
      go_wp2
      go_ret
      exact ⟨ret_bool (by first | rfl | exact X.out), rfl⟩
  · rw [decide_eq_false (show ¬ (0 ≤ n ∧ n < 16) from fun h => h0 h.1)]
    go_enter Try.func19, Try.ntmps19
    go_wp2
    go_ret
    exact ⟨rfl, rfl⟩
theorem made_any {w : World} {B b : Nat} {v : Value} {g : Bk} (h : IsB w B b v g) : Calls Try.prog 28 #[.pointer (some ⟨b, 0, none⟩)] w fun e w' => e = .returned (.bool true) ∧ ∃ nq, w' = w.drewN nq := by
  have c0 := h.c0
  have c1 := h.cH h.ok.always
  have hm := h.ok.me
  have hm' : (g.me : Int) < 16 := by omega
  clear h
  generalize g.me = m at *
  go_enter Try.func28, Try.ntmps28
  go_wp2
  go_quiet (fail)
  go_wp2
  go_ret
  exact ⟨rfl, _, rfl⟩
theorem made_nil (w : World) : Calls Try.prog 28 #[.pointer none] w fun e w' => e = .returned (.bool false) ∧ ∃ nq, w' = w.drewN nq := by
  go_enter Try.func28, Try.ntmps28
  go_wp2
  go_quiet (fail)
  go_wp2
  go_ret
  exact ⟨rfl, _, rfl⟩
theorem made_zero (w : World) (b : Nat) (c0 : w.cell? ⟨b, 0, none⟩ = some (.int .i64 0)) (c1 : w.cell? ⟨b, 1, none⟩ = some (.int .i64 0)) : Calls Try.prog 28 #[.pointer (some ⟨b, 0, none⟩)] w fun e w' => e = .returned (.bool false) ∧ ∃ nq, w' = w.drewN nq := by
  go_enter Try.func28, Try.ntmps28
  go_wp2
  go_quiet (fail)
  go_wp2
  go_ret
  exact ⟨rfl, _, rfl⟩
end Go.Proofs.Ythfdoliojbhcjaa
