/- Entries of one's own whose data are written over. -/
import Derived.Test.YtcijjepleedecaaKd
import Derived.Test.YtcijjepleedecaaEMl
namespace Go.Proofs.Ytcijjepleedecaa.W
open Go.RowKit Go.Maps
set_option linter.unusedVariables false
set_option linter.unusedSimpArgs false
set_option maxRecDepth 100000
attribute [local go_sem] Oper.semAt_some

/-- Cells of one's own, each as 'p' says. -/
def Raw (W : World) (B : Nat) (t : TypeId) (k : Nat) (p : Nat → Value → Prop) (v : Value) (n : Nat) : Prop :=
  ∃ a c, v = .slice a n c ∧ (n = 0 ∨ ∃ g cur, a = some ⟨g, 0, none⟩ ∧ B ≤ g ∧ W.heap[g]? = some (.cells cur t (0, 0)) ∧ ∀ j, j < n * k → ∃ u, cur[j]? = some u ∧ p j u)
theorem Raw.of {W : World} {B : Nat} {t : TypeId} {k : Nat} {p : Nat → Value → Prop} {v : Value} {n : Nat} {xs : List Value} (h : W.ownsRow B t k v n xs) (hp : ∀ j u, xs[j]? = some u → p j u) : Raw W B t k p v n := by
  rcases h.2 with ⟨rfl, h0⟩ | ⟨g, cap, cur, rfl, hb, hg, h1, h2, h3, h4⟩
  · exact ⟨_, _, by rw [h0], .inl h0⟩
  · refine ⟨_, _, rfl, .inr ⟨g, cur, rfl, hb, hg, fun j hj => ?_⟩⟩
    have hl : j < xs.length := by rw [h.1]; exact hj
    obtain ⟨u, hu⟩ : ∃ u, xs[j]? = some u := ⟨xs[j], by simp⟩
    have hx := hu
    rw [← h4, List.getElem?_take, if_pos hj] at hx
    exact ⟨u, by simpa using hx, hp j u hu⟩
theorem Raw.kept {W W' : World} {B : Nat} {t : TypeId} {k : Nat} {p : Nat → Value → Prop} {v : Value} {n : Nat} (h : Raw W B t k p v n) (hg : W.grownBy W' none) : Raw W' B t k p v n := by
  obtain ⟨a, c, rfl, h⟩ := h
  rcases h with h | ⟨g, cur, rfl, hb, hh, hc⟩
  · exact ⟨a, c, rfl, .inl h⟩
  · exact ⟨_, c, rfl, .inr ⟨g, cur, rfl, hb, (hg.block g (Array.getElem?_eq_some_iff.1 hh).1 (by simp)).trans hh, hc⟩⟩
theorem Raw.set {W : World} {B : Nat} {t : TypeId} {k : Nat} {p : Nat → Value → Prop} {v : Value} {n : Nat} (h : Raw W B t k p v n) {r i : Nat} {u : Value} {c : Array Value} {t' : TypeId} {f : Nat × Nat} (hb : W.heap[r]? = some (.cells c t' f)) (hu : t = t' → p i u) : Raw (W.setCell ⟨r, i, none⟩ u) B t k p v n := by
  obtain ⟨a, c0, rfl, h⟩ := h
  rcases h with h | ⟨g, cur, rfl, hlo, hh, hc⟩
  · exact ⟨a, c0, rfl, .inl h⟩
  · by_cases hgr : g = r
    · subst hgr
      rw [hh] at hb
      injection hb with hb
      injection hb with e1 e2 e3
      subst e1
      refine ⟨_, c0, rfl, .inr ⟨g, cur.setIfInBounds i u, rfl, hlo, by simp [World.setCell, Array.getElem?_modify, hh], fun j hj => ?_⟩⟩
      obtain ⟨u0, h1, h2⟩ := hc j hj
      by_cases hji : i = j
      · subst hji
        exact ⟨u, by rw [Array.getElem?_setIfInBounds_self_of_lt (Array.getElem?_eq_some_iff.1 h1).1], hu e2⟩
      · exact ⟨u0, by rw [Array.getElem?_setIfInBounds_ne hji]; exact h1, h2⟩
    · exact ⟨_, c0, rfl, .inr ⟨g, cur, rfl, hlo, ((grown_setCell W r i u).block g (Array.getElem?_eq_some_iff.1 hh).1 (by simpa using hgr)).trans hh, hc⟩⟩
theorem Raw.at {W : World} {B : Nat} {t : TypeId} {k : Nat} {p : Nat → Value → Prop} {v : Value} {n : Nat} (h : Raw W B t k p v n) (hn : 0 < n) : ∃ g cur c, v = .slice (some ⟨g, 0, none⟩) n c ∧ B ≤ g ∧ W.heap[g]? = some (.cells cur t (0, 0)) ∧ (∀ i, W.frozen? ⟨g, i, none⟩ = false) ∧ ∀ j, j < n * k → ∃ u, W.cell? ⟨g, j, none⟩ = some u ∧ p j u := by
  obtain ⟨a, c0, rfl, h⟩ := h
  rcases h with h | ⟨g, cur, rfl, hlo, hh, hc⟩
  · omega
  · refine ⟨g, cur, c0, rfl, hlo, hh, fun i => by simp [World.frozen?, hh], fun j hj => ?_⟩
    obtain ⟨u, h1, h2⟩ := hc j hj
    exact ⟨u, by rw [cell_of_row _ _ _ _ _ _ hh]; exact h1, h2⟩

def pB (_ : Nat) (u : Value) : Prop := ∃ x, u = .int .u8 x
theorem u8s_pB {l : List UInt8} : ∀ j u, (u8s l)[j]? = some u → pB j u := fun j u h => by
  simp only [u8s, List.getElem?_map, Option.map_eq_some_iff] at h
  obtain ⟨c, _, rfl⟩ := h
  exact ⟨_, rfl⟩
/-- A list of one's own, made since wx, as its data are written over. -/
structure WL (wx W : World) (lv : Value) (qs : List (Ent × Value)) : Prop where
  row : W.ownsRow wx.heap.size 55 4 lv qs.length (qs.flatMap entCells)
  each : ∀ p ∈ qs, Raw W wx.heap.size 5 1 pB p.2 p.1.data.length ∧ p.1.data.length ≤ 140737488355328
  gr : wx.grownBy W none
theorem WL.of {wx W : World} {lv : Value} {qs : List (Ent × Value)} (h : EO wx W lv qs) : WL wx W lv qs := ⟨h.row, fun p hp => ⟨Raw.of (h.own p hp).1 u8s_pB, (h.own p hp).2⟩, h.gr⟩
theorem WL.kept {wx W W' : World} {lv : Value} {qs : List (Ent × Value)} (h : WL wx W lv qs) (hg : W.grownBy W' none) : WL wx W' lv qs :=
  ⟨owns_kept h.row hg (fun _ _ _ => by simp), fun p hp => ⟨(h.each p hp).1.kept hg, (h.each p hp).2⟩, grown_trans h.gr hg⟩
theorem WL.set {wx W : World} {lv : Value} {qs : List (Ent × Value)} (h : WL wx W lv qs) {r i : Nat} {x : Int} {c : Array Value} (hb : W.heap[r]? = some (.cells c 5 (0, 0))) (hlo : wx.heap.size ≤ r) : WL wx (W.setCell ⟨r, i, none⟩ (.int .u8 x)) lv qs :=
  ⟨owns_kept h.row (grown_setCell W r i _) (fun g cur hh => ne_tag hh hb (by decide)), fun p hp => ⟨(h.each p hp).1.set hb (fun _ => ⟨_, rfl⟩), (h.each p hp).2⟩, grown_new h.gr (grown_setCell W r i _) hlo⟩
/-- The data of one of them, as the row tells. -/
theorem WL.at {wx W : World} {a : Option Addr} {n c : Nat} {qs : List (Ent × Value)} (h : WL wx W (.slice a n c) qs) {k : Nat} {p : Ent × Value} (hp : qs[k]? = some p) : n = qs.length ∧ ∃ g, a = some ⟨g, 0, none⟩ ∧ n ≤ c ∧ W.cell? ⟨g, k * 4 + 3, none⟩ = some p.2 ∧ ∃ cur, W.heap[g]? = some (.cells cur 55 (0, 0)) := by
  have hk : k < qs.length := (List.getElem?_eq_some_iff.1 hp).1
  rcases h.row.2 with ⟨e, h0⟩ | ⟨g, cap, cur, e, hb, hg, h1, h2, h3, h4⟩
  · omega
  · injection e with e1 e2 e3
    subst e1
    subst e2
    subst e3
    refine ⟨rfl, g, rfl, h1, ?_, cur, hg⟩
    rw [cell_of_row _ _ _ _ _ _ hg]
    have := entCells_at qs k 3 p hp (by omega)
    rw [← h4, List.getElem?_take, if_pos (by omega)] at this
    simpa [entCells] using this
end Go.Proofs.Ytcijjepleedecaa.W
