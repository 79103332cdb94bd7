/- Cells of one's own that are written over. -/
import Derived.Test.YtliefofdlpljaaaDoorCl
import Derived.Test.YtliefofdlpljaaaDoorKc
namespace Go.Proofs.YtliefofdlpljaaaDoor
open Go.RowKit Go.Maps
set_option linter.unusedVariables false
set_option linter.unusedSimpArgs false

/-- Cells of one's own, each as 'p' says. -/
def Raw (W : World) (B : Nat) (t : TypeId) (k : Nat) (p : Nat → Value → Prop) (v : Value) (n : Nat) : Prop :=
  ∃ a c, v = .slice a n c ∧ (n = 0 ∨ ∃ g cur, a = some ⟨g, 0, none⟩ ∧ B ≤ g ∧ W.heap[g]? = some (.cells cur t (0, 0)) ∧ ∀ j, j < n * k → ∃ u, cur[j]? = some u ∧ p j u)
theorem Raw.of {W : World} {B : Nat} {t : TypeId} {k : Nat} {p : Nat → Value → Prop} {v : Value} {n : Nat} {xs : List Value} (h : W.ownsRow B t k v n xs) (hp : ∀ j u, xs[j]? = some u → p j u) : Raw W B t k p v n := by
  rcases h.2 with ⟨rfl, h0⟩ | ⟨g, cap, cur, rfl, hb, hg, h1, h2, h3, h4⟩
  · exact ⟨_, _, by rw [h0], .inl h0⟩
  · refine ⟨_, _, rfl, .inr ⟨g, cur, rfl, hb, hg, fun j hj => ?_⟩⟩
    have hl : j < xs.length := by rw [h.1]; exact hj
    obtain ⟨u, hu⟩ : ∃ u, xs[j]? = some u := ⟨xs[j], by simp⟩
    have hx := hu
    rw [← h4, List.getElem?_take, if_pos hj] at hx
    exact ⟨u, by simpa using hx, hp j u hu⟩
theorem Raw.kept {W W' : World} {B : Nat} {t : TypeId} {k : Nat} {p : Nat → Value → Prop} {v : Value} {n : Nat} (h : Raw W B t k p v n) (hg : W.grownBy W' none) : Raw W' B t k p v n := by
  obtain ⟨a, c, rfl, h⟩ := h
  rcases h with h | ⟨g, cur, rfl, hb, hh, hc⟩
  · exact ⟨a, c, rfl, .inl h⟩
  · exact ⟨_, c, rfl, .inr ⟨g, cur, rfl, hb, (hg.block g (Array.getElem?_eq_some_iff.1 hh).1 (by simp)).trans hh, hc⟩⟩
theorem Raw.set {W : World} {B : Nat} {t : TypeId} {k : Nat} {p : Nat → Value → Prop} {v : Value} {n : Nat} (h : Raw W B t k p v n) {r i : Nat} {u : Value} {c : Array Value} {t' : TypeId} {f : Nat × Nat} (hb : W.heap[r]? = some (.cells c t' f)) (hu : t = t' → p i u) : Raw (W.setCell ⟨r, i, none⟩ u) B t k p v n := by
  obtain ⟨a, c0, rfl, h⟩ := h
  rcases h with h | ⟨g, cur, rfl, hlo, hh, hc⟩
  · exact ⟨a, c0, rfl, .inl h⟩
  · by_cases hgr : g = r
    · subst hgr
      rw [hh] at hb
      injection hb with hb
      injection hb with e1 e2 e3
      subst e1
      refine ⟨_, c0, rfl, .inr ⟨g, cur.setIfInBounds i u, rfl, hlo, by simp [World.setCell, Array.getElem?_modify, hh], fun j hj => ?_⟩⟩
      obtain ⟨u0, h1, h2⟩ := hc j hj
      by_cases hji : i = j
      · subst hji
        exact ⟨u, by rw [Array.getElem?_setIfInBounds_self_of_lt (Array.getElem?_eq_some_iff.1 h1).1], hu e2⟩
      · exact ⟨u0, by rw [Array.getElem?_setIfInBounds_ne hji]; exact h1, h2⟩
    · exact ⟨_, c0, rfl, .inr ⟨g, cur, rfl, hlo, ((grown_setCell W r i u).block g (Array.getElem?_eq_some_iff.1 hh).1 (by simpa using hgr)).trans hh, hc⟩⟩
theorem Raw.at {W : World} {B : Nat} {t : TypeId} {k : Nat} {p : Nat → Value → Prop} {v : Value} {n : Nat} (h : Raw W B t k p v n) (hn : 0 < n) : ∃ g cur c, v = .slice (some ⟨g, 0, none⟩) n c ∧ B ≤ g ∧ W.heap[g]? = some (.cells cur t (0, 0)) ∧ (∀ i, W.frozen? ⟨g, i, none⟩ = false) ∧ ∀ j, j < n * k → ∃ u, W.cell? ⟨g, j, none⟩ = some u ∧ p j u := by
  obtain ⟨a, c0, rfl, h⟩ := h
  rcases h with h | ⟨g, cur, rfl, hlo, hh, hc⟩
  · omega
  · refine ⟨g, cur, c0, rfl, hlo, hh, fun i => by simp [World.frozen?, hh], fun j hj => ?_⟩
    obtain ⟨u, h1, h2⟩ := hc j hj
    exact ⟨u, by rw [cell_of_row _ _ _ _ _ _ hh]; exact h1, h2⟩

def pB (_ : Nat) (u : Value) : Prop := ∃ x, u = .int .u8 x
def pI (_ : Nat) (u : Value) : Prop := ∃ x, u = .int .i64 x
def pE (ds : List (Value × Nat)) (j : Nat) (u : Value) : Prop := (j % 4 = 3 → ∃ q, ds[j / 4]? = some q ∧ q.1 = u) ∧ (j % 4 = 0 → ∃ x, u = .int .i64 x)
/-- The copy, as it is written over. -/
structure LP (wx W : World) (gy : Nat) (m : Msg) (ev sv dv : Value) (ds : List (Value × Nat)) : Prop where
  mb : MB W 27 gy m ev sv dv
  d : Raw W wx.heap.size 5 1 pB dv m.data.length
  s : Raw W wx.heap.size 3 1 pI sv m.srv.length
  e : Raw W wx.heap.size 47 4 (pE ds) ev m.ents.length
  each : ∀ q ∈ ds, Raw W wx.heap.size 5 1 pB q.1 q.2 ∧ q.2 ≤ 140737488355328
  gr : wx.grownBy W none
theorem LP.kept {wx W W' : World} {gy : Nat} {m : Msg} {ev sv dv : Value} {ds : List (Value × Nat)} (h : LP wx W gy m ev sv dv ds) (hg : W.grownBy W' none) : LP wx W' gy m ev sv dv ds :=
  ⟨h.mb.kept hg, h.d.kept hg, h.s.kept hg, h.e.kept hg, fun q hq => ⟨(h.each q hq).1.kept hg, (h.each q hq).2⟩, grown_trans h.gr hg⟩
theorem LP.set {wx W : World} {gy : Nat} {m : Msg} {ev sv dv : Value} {ds : List (Value × Nat)} (h : LP wx W gy m ev sv dv ds) {r i : Nat} {u : Value} {c : Array Value} {t' : TypeId} {f : Nat × Nat} (hb : W.heap[r]? = some (.cells c t' f)) (hlo : wx.heap.size ≤ r) (h27 : 27 ≠ t') (h5 : 5 = t' → pB i u) (h3 : 3 = t' → pI i u) (h47 : 47 = t' → pE ds i u) : LP wx (W.setCell ⟨r, i, none⟩ u) gy m ev sv dv ds :=
  ⟨((grown_setCell W r i u).block gy (Array.getElem?_eq_some_iff.1 h.mb).1 (ne_tag h.mb hb h27)).trans h.mb, h.d.set hb h5, h.s.set hb h3, h.e.set hb h47, fun q hq => ⟨(h.each q hq).1.set hb h5, (h.each q hq).2⟩, grown_new h.gr (grown_setCell W r i u) hlo⟩

theorem u8s_pB {l : List UInt8} : ∀ j u, (u8s l)[j]? = some u → pB j u := fun j u h => by
  simp only [u8s, List.getElem?_map, Option.map_eq_some_iff] at h
  obtain ⟨c, _, rfl⟩ := h
  exact ⟨_, rfl⟩
theorem i64s_pI {l : List Int} : ∀ j u, (i64s l)[j]? = some u → pI j u := fun j u h => by
  simp only [i64s, List.getElem?_map, Option.map_eq_some_iff] at h
  obtain ⟨c, _, rfl⟩ := h
  exact ⟨_, rfl⟩
theorem ents_pE (es : List (Ent × Value)) : ∀ j u, (es.flatMap entCells)[j]? = some u → pE (es.map fun p => (p.2, p.1.data.length)) j u := fun j u h => by
  have hl : j < es.length * 4 := by rw [← entCells_len]; exact (List.getElem?_eq_some_iff.1 h).1
  have hk : j / 4 < es.length := by omega
  have hp : es[j / 4]? = some es[j / 4] := by simp
  have key := entCells_at es (j / 4) (j % 4) _ hp (Nat.mod_lt _ (by omega))
  rw [show j / 4 * 4 + j % 4 = j by omega, h] at key
  refine ⟨fun h3 => ?_, fun h0 => ?_⟩
  · rw [h3] at key
    simp [entCells] at key
    exact ⟨_, by rw [List.getElem?_map, hp]; rfl, key.symm⟩
  · rw [h0] at key
    simp [entCells] at key
    exact ⟨_, key⟩
/-- A copy that is just made. -/
theorem LP.of {wx W W' : World} {gy : Nat} {m : Msg} {ev sv dv : Value} {es : List (Ent × Value)} (hm : MB W' 27 gy m ev sv dv) (hes : es.map (·.1) = m.ents) (he : EO wx W ev es) (hs : OwnI W wx.heap.size sv m.srv) (hd : Own W wx.heap.size dv m.data) (hg : W.grownBy W' none) : LP wx W' gy m ev sv dv (es.map fun p => (p.2, p.1.data.length)) := by
  have hn : es.length = m.ents.length := by rw [← hes, List.length_map]
  refine ⟨hm, (Raw.of hd u8s_pB).kept hg, (Raw.of hs i64s_pI).kept hg, ?_, fun q hq => ?_, grown_trans he.gr hg⟩
  · have := Raw.of he.row (ents_pE es)
    rw [hn] at this
    exact this.kept hg
  · obtain ⟨p, hp, rfl⟩ := List.mem_map.1 hq
    exact ⟨(Raw.of (he.own p hp).1 u8s_pB).kept hg, (he.own p hp).2⟩

end Go.Proofs.YtliefofdlpljaaaDoor
