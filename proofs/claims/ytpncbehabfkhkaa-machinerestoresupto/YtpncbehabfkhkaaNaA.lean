/- A row of one's own that may lie at an offset of its block; append onto it. -/
import Derived.Test.YtpncbehabfkhkaaMaA
import Derived.ArgAppend
namespace Go.Proofs.Ytpncbehabfkhkaa.W
open Go.RowKit Go.Maps
set_option linter.unusedVariables false
set_option linter.unusedSimpArgs false

def RowO (w : World) (e : TypeId) (v : Value) (n : Nat) (xs : List Value) : Prop :=
  xs.length = n ∧ ((v = .slice none 0 0 ∧ n = 0) ∨ ∃ g off cap cur, v = .slice (some ⟨g, off, none⟩) n cap ∧ w.heap[g]? = some (.cells cur e (0, 0)) ∧ n ≤ cap ∧ off + cap ≤ cur.size ∧ ∀ (j : Nat) u, xs[j]? = some u → cur[off + j]? = some u)
theorem RowO.of_own {w : World} {B : Nat} {e : TypeId} {v : Value} {n : Nat} {xs : List Value} (h : w.ownsRow B e 1 v n xs) : RowO w e v n xs := by
  refine ⟨by simpa using h.1, ?_⟩
  rcases h.2 with h0 | ⟨g, cap, cur, hv, _, hg, hnc, hcm, hcs, ht⟩
  · exact .inl h0
  · refine .inr ⟨g, 0, cap, cur, hv, hg, hnc, by omega, fun j u hj => ?_⟩
    rw [Nat.mul_one] at ht
    rw [← ht, List.getElem?_take] at hj
    split at hj
    · simpa using hj
    · cases hj
theorem RowO.nil (w : World) (e : TypeId) : RowO w e (.slice none 0 0) 0 [] := ⟨rfl, .inl ⟨rfl, rfl⟩⟩
theorem RowO.kept {W W' : World} {e : TypeId} {v : Value} {n : Nat} {xs : List Value} {row : Option Nat} (h : RowO W e v n xs) (hg : W.grownBy W' row) (hr : ∀ g cur, W.heap[g]? = some (.cells cur e (0, 0)) → some g ≠ row) : RowO W' e v n xs := by
  refine ⟨h.1, ?_⟩
  rcases h.2 with hn | ⟨g, off, cap, cur, hv, hh, rest⟩
  · exact .inl hn
  · exact .inr ⟨g, off, cap, cur, hv, (hg.block g (Array.getElem?_eq_some_iff.1 hh).1 (hr g cur hh)).trans hh, rest⟩
theorem RowO.shape {W : World} {e : TypeId} {v : Value} {n : Nat} {xs : List Value} (h : RowO W e v n xs) : ∃ a c, v = .slice a n c := by
  rcases h.2 with ⟨rfl, rfl⟩ | ⟨g, off, cap, cur, rfl, _⟩
  · exact ⟨_, _, rfl⟩
  · exact ⟨_, _, rfl⟩
theorem RowO.low {W : World} {e : TypeId} {v : Value} {n : Nat} {xs : List Value} (h : RowO W e v n xs) : ∀ r, v.ownBlock = some r → 0 ≤ r ∧ ∃ c, W.heap[r]? = some (.cells c e (0, 0)) := by
  rcases h.2 with ⟨rfl, _⟩ | ⟨g, off, cap, cur, rfl, hg, _⟩
  · intro r e; cases e
  · intro r e; cases e; exact ⟨Nat.zero_le _, _, hg⟩
theorem RowO.tag {W : World} {e : TypeId} {v : Value} {n : Nat} {xs : List Value} (h : RowO W e v n xs) {b : Nat} {c : Array Value} {t : TypeId} {f : Nat × Nat} (hb : W.heap[b]? = some (.cells c t f)) (ht : t ≠ e) : some b ≠ v.ownBlock := by
  rcases h.2 with ⟨rfl, _⟩ | ⟨g, off, cap, cur, rfl, hg, _⟩
  · simp [Value.ownBlock]
  · exact ne_tag hb hg ht
theorem grown_setCells (b : Nat) : ∀ (vs : List Value) (o : Nat) (w : World), w.grownBy (w.setCells b o vs) (some b)
  | [], _, w => grown_refl _ _
  | v :: vs, o, w => grown_trans (grown_setCell w b o v) (grown_setCells b vs (o + 1) _)
/-- append(v, x), where v is a row of one's own: in its block, or in a new one. -/
theorem run_append_o {P : Program} (w : World) (t ty e : TypeId) (i : TypeInfo) (z : Value) (bytes : Nat) (ht : P.underlying t = some (.slice e)) (hi : P.info? e = some i) (hz : i.zero = some z) (hsize : i.size = 1) (hby : i.bytes = bytes) (hzs : z.cells.size = 1)
    (v : Value) (n : Nat) (xs : List Value) (h : RowO w e v n xs) (a : Addr) (c : Nat) (x : Value) (hx : w.cell? (a.add 0) = some x) (h1 : x.oneCell' = true) (h63 : n + 1 ≤ maxLen) (hb : (n + 1) * bytes ≤ 140737488355328) :
    ∃ v' w', (Builtin.append_ #[t, t] ty #[v, .slice (some a) 1 c]).run P w = .ok v' w' ∧ RowO w' e v' (n + 1) (xs ++ [x]) ∧ w.grownBy w' v.ownBlock ∧ (v'.ownBlock = v.ownBlock ∨ ∀ k, v'.ownBlock = some k → w.heap.size ≤ k) := by
  have hnews : ∀ (j : Nat) u, [x][j]? = some u → w.cell? (a.add j) = some u := fun j u hj => by
    cases j with
    | zero => simp at hj; subst hj; exact hx
    | succ j => simp at hj
  rcases h.2 with ⟨rfl, rfl⟩ | ⟨g, off, cap, cur, rfl, hg, hnc, hcs, hel⟩
  · have hxs : xs = [] := List.eq_nil_of_length_eq_zero h.1
    subst hxs
    obtain ⟨v', w', hr, h2, h3, h4, h5⟩ := run_append_own_at (P := P) w 0 t ty e i z 1 bytes ht hi hz hsize hby hzs (by decide) (.slice none 0 0) 0 [] (World.ownsRow_nil _ _ _ _) a 1 c [x] rfl hnews (by simp [h1]) h63 hb (Nat.zero_le _)
    refine ⟨v', w', hr, RowO.of_own h2, h3, ?_⟩
    rcases h5 with h5 | h5
    · exact .inl h5
    · exact .inr (fun k hk => by rw [h5] at hk; cases hk; exact Nat.le_refl _)
  · have hcell : ∀ j, j < cur.size → w.cell? ⟨g, j, none⟩ = cur[j]? := fun j hj => by simp [World.cell?, hg]
    by_cases hroom : n + 1 ≤ cap
    · have hr := run_append_room_cells (P := P) w t ty e i ht hi g off n cap a 1 c [x] (by simp [hsize]) hnews (by simp [h1]) hroom (fun j hj => by
        simp at hj; subst hj
        rw [hsize, hcell _ (by omega), Array.getElem?_eq_getElem (by omega)]; rfl) (fun j hj => by simp [World.frozen?, hg])
      rw [hsize, Nat.mul_one] at hr
      refine ⟨_, _, hr, ⟨by simp [h.1], .inr ⟨g, off, cap, cur.setIfInBounds (off + n) x, rfl, ?_, hroom, by simpa using hcs, fun j u hj => ?_⟩⟩, grown_setCells _ _ _ _, .inl rfl⟩
      · show (w.setCell ⟨g, off + n, none⟩ x).heap[g]? = _
        simp [World.setCell, Array.getElem?_modify, hg]
      · by_cases hjn : j < n
        · rw [List.getElem?_append_left (by rw [h.1]; exact hjn)] at hj
          rw [Array.getElem?_setIfInBounds_ne (by omega)]
          exact hel j u hj
        · have hj2 : j = n := by
            have := (List.getElem?_eq_some_iff.1 hj).1
            simp [h.1] at this
            omega
          subst hj2
          rw [List.getElem?_append_right (by rw [h.1]; exact Nat.le_refl _), h.1] at hj
          simp at hj
          subst hj
          rw [Array.getElem?_setIfInBounds_self_of_lt (by omega)]
    · obtain ⟨v', w', hr, h2, h3⟩ := run_append_arg_grows (P := P) w t ty e i z 1 bytes ht hi hz hsize hby hzs (by decide) ⟨g, off, none⟩ n cap xs (by simp [h.1]) (fun j u hj => by
        have : j < xs.length := (List.getElem?_eq_some_iff.1 hj).1
        have hadd : ((⟨g, off, none⟩ : Addr).add j) = ⟨g, off + j, none⟩ := by unfold Addr.add; split <;> simp_all
        rw [hadd, hcell _ (by rw [h.1] at this; omega)]
        exact hel j u hj) a 1 c [x] rfl hnews (by omega) h63 hb
      exact ⟨v', w', hr, RowO.of_own h2, grown_any h3 _, .inr (fun k hk => (own_low h2 k hk).1)⟩
end Go.Proofs.Ytpncbehabfkhkaa.W
