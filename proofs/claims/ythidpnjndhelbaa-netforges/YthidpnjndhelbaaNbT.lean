/- net: rows of letters that came in; a row of letters at an offset of its block. -/
import Derived.Test.YthidpnjndhelbaaNbR
namespace Go.Proofs.Ythidpnjndhelbaa
open Go.RowKit Go.Maps
set_option linter.unusedVariables false
set_option linter.unusedSimpArgs false
set_option maxRecDepth 100000

/-- Letters that came in. -/
def LtsR (w : World) (v : Value) (L : List LV) : Prop :=
  (∃ a c, v = .slice a L.length c) ∧ (∀ p ∈ L, Byt w p.2 p.1.b ∧ p.1.b.length ≤ 140737488355328) ∧ ∀ (k : Nat) (hk : k < L.length), ∃ b off cap, v = .slice (some ⟨b, off, none⟩) L.length cap ∧ w.cell? ⟨b, off + k * 3, none⟩ = some (.int .i64 L[k].1.fr) ∧ w.cell? ⟨b, off + k * 3 + 1, none⟩ = some (.int .i64 L[k].1.tw) ∧ w.cell? ⟨b, off + k * 3 + 2, none⟩ = some L[k].2
theorem LtsR.kept {w w' : World} {v : Value} {L : List LV} (h : LtsR w v L) (hg : w.grownBy w' none) : LtsR w' v L := by
  refine ⟨h.1, fun p hp => ⟨(h.2.1 p hp).1.kept hg, (h.2.1 p hp).2⟩, fun k hk => ?_⟩
  obtain ⟨b, off, cap, e, c0, c1, c2⟩ := h.2.2 k hk
  exact ⟨b, off, cap, e, hg.cell c0 (by simp), hg.cell c1 (by simp), hg.cell c2 (by simp)⟩
/-- Letters in a row of one's own, wherever in its block. -/
def WantR (W : World) (B : Nat) (v : Value) (l : List LV) : Prop :=
  (v = .slice none 0 0 ∧ l = []) ∨ ∃ g off cap cur, v = .slice (some ⟨g, off, none⟩) l.length cap ∧ B ≤ g ∧ W.heap[g]? = some (.cells cur 34 (0, 0)) ∧ l.length ≤ cap ∧ off + cap * 3 ≤ cur.size ∧ ∀ (j : Nat) u, (lts l)[j]? = some u → cur[off + j]? = some u
theorem WantR.nil (W : World) (B : Nat) : WantR W B (.slice none 0 0) [] := .inl ⟨rfl, rfl⟩
theorem WantR.shape {W : World} {B : Nat} {v : Value} {l : List LV} (h : WantR W B v l) : ∃ a c, v = .slice a l.length c := by
  rcases h with ⟨rfl, rfl⟩ | ⟨g, off, cap, cur, rfl, _⟩
  · exact ⟨_, _, rfl⟩
  · exact ⟨_, _, rfl⟩
theorem WantR.keeps {W W' : World} {F : Nat → Prop} {B : Nat} {v : Value} {l : List LV} (h : WantR W B v l) (hk : Keeps F W W') (hr : ∀ g, v.ownBlock = some g → ¬ F g) : WantR W' B v l := by
  rcases h with h | ⟨g, off, cap, cur, hv, hb, hh, rest⟩
  · exact .inl h
  · refine .inr ⟨g, off, cap, cur, hv, hb, ?_, rest⟩
    by_cases ho : v.ownBlock = some g
    · exact (hk.block g (Array.getElem?_eq_some_iff.1 hh).1 (hr g ho)).trans hh
    · exact absurd (by rw [hv]; rfl) ho
theorem WantR.kept {W W' : World} {B : Nat} {v : Value} {l : List LV} (h : WantR W B v l) (hg : W.grownBy W' none) : WantR W' B v l := h.keeps (F := fun _ => False) (Keeps.of_none hg) (fun _ _ e => e)
theorem WantR.tag {W : World} {B : Nat} {v : Value} {l : List LV} (h : WantR W B v l) : ∀ r, v.ownBlock = some r → B ≤ r ∧ ∃ c, W.heap[r]? = some (.cells c 34 (0, 0)) := by
  rcases h with ⟨rfl, _⟩ | ⟨g, off, cap, cur, rfl, hb, hg, _⟩
  · intro r e; cases e
  · intro r e; cases e; exact ⟨hb, _, hg⟩
theorem WantR.get {W : World} {B : Nat} {v : Value} {x : LV} {l : List LV} (h : WantR W B v (x :: l)) : ∃ g off cap, v = .slice (some ⟨g, off, none⟩) (l.length + 1) cap ∧ l.length + 1 ≤ cap ∧ W.cell? ⟨g, off, none⟩ = some (.int .i64 x.1.fr) ∧ W.cell? ⟨g, off + 1, none⟩ = some (.int .i64 x.1.tw) ∧ W.cell? ⟨g, off + 2, none⟩ = some x.2 := by
  rcases h with ⟨_, e⟩ | ⟨g, off, cap, cur, hv, hb, hg, hl, hs, hc⟩
  · cases e
  · refine ⟨g, off, cap, hv, hl, ?_, ?_, ?_⟩
    · rw [cell_of_row _ _ _ _ _ _ hg]; exact hc 0 _ rfl
    · rw [cell_of_row _ _ _ _ _ _ hg]; exact hc 1 _ rfl
    · rw [cell_of_row _ _ _ _ _ _ hg]; exact hc 2 _ rfl
/-- What is left behind the first one. -/
theorem WantR.tail {W : World} {B : Nat} {v : Value} {x : LV} {l : List LV} (h : WantR W B v (x :: l)) : ∃ a' c', (∀ w', (Instr.slice 57 v (some (.int .i64 1)) none none).run Try.prog w' = .ok (.slice a' l.length c') w') ∧ WantR W B (.slice a' l.length c') l ∧ (Value.slice a' l.length c').ownBlock = v.ownBlock := by
  have he : Try.prog.elem 57 = 34 := by kernel_rfl
  have hu : Try.prog.underlying 57 = some (.slice (Try.prog.elem 57)) := by rw [he]; exact Try.underlying57
  rcases h with ⟨_, e⟩ | ⟨g, off, cap, cur, rfl, hb, hg, hl, hs, hc⟩
  · cases e
  · have hrun : ∀ w', (Instr.slice 57 (.slice (some ⟨g, off, none⟩) (x :: l).length cap) (some (.int .i64 1)) none none).run Try.prog w' = .ok (sliced (some ⟨g, off, none⟩) 1 (l.length + 1) cap 3) w' := fun w' => by
      rw [run_slice_l w' 57 _ _ cap hu .i64 1 (by omega) (by simp; omega), he, Try.sizeOf34 w']
      rfl
    by_cases h1 : cap = 1
    · have hl0 : l.length = 0 := by simp at hl; omega
      have e : sliced (some ⟨g, off, none⟩) 1 (l.length + 1) cap 3 = .slice (some ⟨g, off, none⟩) l.length (cap - 1) := by unfold sliced; rw [if_pos h1]; rfl
      refine ⟨_, _, fun w' => by rw [hrun, e], .inr ⟨g, off, cap - 1, cur, rfl, hb, hg, by omega, by omega, fun j u hj => ?_⟩, rfl⟩
      obtain rfl : l = [] := List.length_eq_zero_iff.1 hl0
      simp [lts] at hj
    · have e : sliced (some ⟨g, off, none⟩) 1 (l.length + 1) cap 3 = .slice (some ⟨g, off + 3, none⟩) l.length (cap - 1) := by unfold sliced; rw [if_neg h1]; simp [Addr.add]
      refine ⟨_, _, fun w' => by rw [hrun, e], .inr ⟨g, off + 3, cap - 1, cur, rfl, hb, hg, by simp at hl; omega, by simp at hl; omega, fun j u hj => ?_⟩, rfl⟩
      have := hc (3 + j) u (by
        show (ltC x ++ lts l)[3 + j]? = _
        rw [List.getElem?_append_right (by simp [ltC])]
        simpa [ltC] using hj)
      rw [← Nat.add_assoc] at this
      exact this
theorem want_of_own {W : World} {B : Nat} {v : Value} {l : List LV} (h : OwnL 34 W B v l) : WantR W B v l := by
  rcases h.2 with ⟨rfl, h0⟩ | ⟨g, cap, cur, hv, hb, hg, hnc, hcm, hcs, ht⟩
  · exact .inl ⟨rfl, List.length_eq_zero_iff.1 h0⟩
  · refine .inr ⟨g, 0, cap, cur, hv, hb, hg, hnc, by omega, fun j u hj => ?_⟩
    rw [← ht, List.getElem?_take] at hj
    split at hj
    · simpa using hj
    · cases hj
/-- append(want, x). -/
theorem want_app {W : World} {B : Nat} {v : Value} {l : List LV} (h : WantR W B v l) (x : LV) (q : Nat) (hq : Blk W q (ltC x).toArray 34) (hone : x.2.oneCell' = true) (hl : l.length ≤ 1000000) (hB : B ≤ W.heap.size) (ty : TypeId) :
    ∃ a' c' W', (Builtin.append_ #[57, 57] ty #[v, .slice (some ⟨q, 0, none⟩) 1 1]).run Try.prog W = .ok (.slice a' (l.length + 1) c') W' ∧ WantR W' B (.slice a' (l.length + 1) c') (l ++ [x]) ∧ W.grownBy W' v.ownBlock ∧ ((Value.slice a' (l.length + 1) c').ownBlock = v.ownBlock ∨ ∀ k, (Value.slice a' (l.length + 1) c').ownBlock = some k → W.heap.size ≤ k) := by
  obtain ⟨i0, hi, hz0, hz1, hz2⟩ := info_parts info34
  rcases h with ⟨rfl, rfl⟩ | ⟨g, off, cap, cur, rfl, hb, hg, hnc, hcs, hel⟩
  · obtain ⟨a', c', W', hr, ho, hgr, hbl⟩ := appL Try.underlying57 info34 (show OwnL 34 W B (.slice none 0 0) [] from World.ownsRow_nil _ _ _ _) [x] ⟨q, 0, none⟩ 1 (one_src hq) (oneL_one hone) (by simp) hB ty
    refine ⟨a', c', W', hr, want_of_own ho, hgr, ?_⟩
    rcases hbl with h | h
    · exact .inl h
    · exact .inr (fun k e => by
        have h' : (Value.slice a' (([] : List LV).length + 1) c').ownBlock = some W.heap.size := h
        rw [h'] at e; cases e; exact Nat.le_refl _)
  · by_cases hroom : l.length + 1 ≤ cap
    · have hfc := run_firstCells_some (P := Try.prog) W 3 1 ⟨q, 0, none⟩ 1 1 (lts [x]) (by simp [lts, ltC]) (one_src hq)
      have hll : (lts [x]).length = 3 := by simp [lts, ltC]
      have hst := run_storeCells_at (P := Try.prog) g (off + l.length * 3) 34 (lts [x]) 0 cur W hg (by rw [hll]; omega) (oneL_one hone)
      simp only [Nat.add_zero] at hst
      refine ⟨some ⟨g, off, none⟩, cap, W.setRow g (cur.toList.take (off + l.length * 3) ++ lts [x] ++ cur.toList.drop (off + l.length * 3 + (lts [x]).length)).toArray, ?_, .inr ⟨g, off, cap, _, by simp, hb, setRow_heap _ _ _ _ _ _ hg, by simpa using hroom, ?_, fun j u hj => ?_⟩, grown_setRow _ _ _, .inl rfl⟩
      · simp [Builtin.append_, run_underlying Try.underlying57, sizeOf, typeInfo, hi, hz1, Builtin.lenOf, hroom, hfc, Addr.add_lit, hst]
      · simp [hll]
        omega
      · have htk : (cur.toList.take (off + l.length * 3)).length = off + l.length * 3 := by simp; omega
        rw [List.getElem?_toArray]
        rw [lts_append] at hj
        by_cases hjl : j < (lts l).length
        · rw [List.getElem?_append_left hjl] at hj
          rw [lts_len] at hjl
          rw [List.append_assoc, List.getElem?_append_left (by omega), List.getElem?_take, if_pos (by omega)]
          simpa using hel j u hj
        · rw [List.getElem?_append_right (by omega)] at hj
          rw [lts_len] at hjl hj
          have hj3 : j - l.length * 3 < 3 := by have := (List.getElem?_eq_some_iff.1 hj).1; omega
          rw [List.append_assoc, List.getElem?_append_right (by omega), htk, List.getElem?_append_left (by omega), show off + j - (off + l.length * 3) = j - l.length * 3 by omega]
          exact hj
    · obtain ⟨v', w', hr, h2, h3⟩ := run_append_arg_grows (P := Try.prog) W 57 ty 34 i0 _ 3 40 Try.underlying57 hi hz0 hz1 hz2 rfl (by decide) ⟨g, off, none⟩ l.length cap (lts l) (lts_len l) (fun j u hj => by
        rw [add_at, cell_of_row _ _ _ _ _ _ hg]; exact hel j u hj) ⟨q, 0, none⟩ 1 1 (lts [x]) (by simp [lts, ltC]) (one_src hq) (by omega) (by unfold maxLen; omega) (by omega)
      obtain ⟨a', c', rfl⟩ := row_shape h2
      have ho : OwnL 34 w' W.heap.size (.slice a' (l.length + 1) c') (l ++ [x]) := by
        unfold OwnL
        rw [lts_append, List.length_append]
        exact h2
      have hw := want_of_own ho
      refine ⟨a', c', w', hr, ?_, grown_any h3 _, .inr (fun k hk => (own_low h2 k hk).1)⟩
      rcases hw with ⟨e, e2⟩ | ⟨g2, off2, cap2, cur2, e, hb2, rest⟩
      · simp at e2
      · exact .inr ⟨g2, off2, cap2, cur2, e, Nat.le_trans hB hb2, rest⟩
/-- Bools that came in. -/
def BoolsR (w : World) (v : Value) (T : List Bool) : Prop :=
  (∃ a c, v = .slice a T.length c) ∧ ∀ (k : Nat) (hk : k < T.length), ∃ b off cap, v = .slice (some ⟨b, off, none⟩) T.length cap ∧ w.cell? ⟨b, off + k, none⟩ = some (.bool T[k])
theorem BoolsR.kept {w w' : World} {v : Value} {T : List Bool} (h : BoolsR w v T) (hg : w.grownBy w' none) : BoolsR w' v T := by
  refine ⟨h.1, fun k hk => ?_⟩
  obtain ⟨b, off, cap, e, c0⟩ := h.2 k hk
  exact ⟨b, off, cap, e, hg.cell c0 (by simp)⟩
end Go.Proofs.Ythidpnjndhelbaa
