/- history: HistoryMore: rows of the document's calls; what one more call needs. -/
import Derived.Test.YthbfjpaimnhpgabHRr
import Derived.Test.YthbfjpaimnhpgabHOp
namespace Go.Proofs.Ythbfjpaimnhpgab
open Go.RowKit Go.Maps
set_option linter.unusedVariables false
set_option linter.unusedSimpArgs false
set_option maxRecDepth 100000

def OwnE (w : World) (B : Nat) (v : Value) (L : List CE) : Prop := w.ownsRow B 27 12 v L.length (cals L)
theorem OwnE.len {w : World} {B : Nat} {v : Value} {L : List CE} (h : OwnE w B v L) : ∃ a c, v = .slice a L.length c := row_shape h
theorem OwnE.kept {w w' : World} {B : Nat} {v : Value} {L : List CE} (h : OwnE w B v L) (hg : w.grownBy w' none) : OwnE w' B v L := owns_kept h hg (fun _ _ _ => by simp)
theorem OwnE.red {w : World} {B : Nat} {v : Value} {L : List CE} (h : OwnE w B v L) (hi : ∀ x ∈ L, InC w x) : CsR w v L := by
  refine ⟨?_, hi⟩
  rcases Nat.eq_zero_or_pos L.length with h0 | h0
  · obtain rfl := List.length_eq_zero_iff.1 h0
    rcases h.2 with ⟨hv, _⟩ | ⟨g, cap, cur, hv, _⟩
    · exact .inl ⟨rfl, none, 0, hv, fun _ => rfl⟩
    · exact .inl ⟨rfl, _, _, hv, fun e => by cases e⟩
  · obtain ⟨g, cap, hv, hb, ho, _, hc⟩ := owns_cell h h0
    exact .inr ⟨g, 0, cap, hv, (owns_lt h ho).2, fun j x hj => by rw [Nat.zero_add]; exact hc j x hj⟩
theorem info55 : (Try.prog.info? 27).map (fun i => (i.zero, i.size, i.bytes)) = some (some (.agg #[.int .i64 0, .int .i64 0, .int .i64 0, .int .i64 0, .int .i64 0, .bool false, .int .i64 0, .int .i64 0, .int .i64 0, .int .i64 0, .slice none 0 0, .slice none 0 0]), 12, 128) := by kernel_rfl
/-- append(row, calls...). -/
theorem appE {W : World} {B : Nat} {v : Value} {L0 : List CE} (h : OwnE W B v L0) {ad : Addr} {m c : Nat} {L : List CE} (hm : L.length = m) (hc : ∀ j u, (cals L)[j]? = some u → W.cell? (ad.add j) = some u) (hs : SlC L) (hl : L0.length + m ≤ 1099511627776) (hB : B ≤ W.heap.size) (ty : TypeId) :
    ∃ a' c' W', (Builtin.append_ #[22, 22] ty #[v, .slice (some ad) m c]).run Try.prog W = .ok (.slice a' (L0.length + m) c') W' ∧ OwnE W' B (.slice a' (L0.length + m) c') (L0 ++ L) ∧ W.grownBy W' v.ownBlock := by
  obtain ⟨i0, hi, hz0, hz1, hz2⟩ := info_parts info55
  obtain ⟨v', w', hr, hown, hg, _, hbl⟩ := run_append_own_at (P := Try.prog) W B 22 ty 27 i0 (.agg #[.int .i64 0, .int .i64 0, .int .i64 0, .int .i64 0, .int .i64 0, .bool false, .int .i64 0, .int .i64 0, .int .i64 0, .int .i64 0, .slice none 0 0, .slice none 0 0]) 12 128 Try.underlying22 hi hz0 hz1 hz2 rfl (by decide) v L0.length (cals L0) h ad m c (cals L) (by rw [cals_len, hm]) hc (cals_one hs) (by unfold maxLen; omega) (by omega) hB
  obtain ⟨a', c', rfl⟩ := row_shape hown
  refine ⟨a', c', w', hr, ?_, hg⟩
  unfold OwnE
  rw [List.length_append, hm, cals_append]
  exact hown
theorem ownE_empty (w : World) : OwnE (w.alloc (.cells #[] 27)) w.heap.size (.slice (some ⟨w.heap.size, 0, none⟩) 0 0) [] :=
  World.ownsRow_made (e := 27) (size := 12) (base := w.heap.size) w #[] 0 (Nat.le_refl _) (by unfold maxLen; omega) (by simp)
/-- append([]Call{}, v...). -/
theorem run_copyE {W : World} {B g : Nat} {v : Value} {L : List CE} (hown : OwnE W B (.slice (some ⟨g, 0, none⟩) 0 0) []) (hB : B ≤ W.heap.size) (h : CsR W v L) (hl : L.length ≤ 1099511627776) (ty : TypeId) :
    ∃ a' c' W', (Builtin.append_ #[22, 22] ty #[.slice (some ⟨g, 0, none⟩) 0 0, v]).run Try.prog W = .ok (.slice a' L.length c') W' ∧ OwnE W' B (.slice a' L.length c') L ∧ W.grownBy W' (some g) := by
  have go : ∀ (ad : Addr) (c : Nat), v = .slice (some ad) L.length c → (∀ j u, (cals L)[j]? = some u → W.cell? (ad.add j) = some u) → ∃ a' c' W', (Builtin.append_ #[22, 22] ty #[.slice (some ⟨g, 0, none⟩) 0 0, v]).run Try.prog W = .ok (.slice a' L.length c') W' ∧ OwnE W' B (.slice a' L.length c') L ∧ W.grownBy W' (some g) := by
    intro ad c hv hc
    obtain ⟨a', c', w', hr, ho, hg⟩ := appE hown (L := L) (c := c) rfl hc h.sl (by simpa using hl) hB ty
    simp only [List.length_nil, Nat.zero_add, List.nil_append] at hr ho
    exact ⟨a', c', w', by rw [hv]; exact hr, ho, hg⟩
  rcases h.row with ⟨rfl, av, cap, e, hn⟩ | ⟨b, off, cap, e, _, hc⟩
  · cases av with
    | none =>
      obtain rfl := hn rfl
      obtain ⟨i0, hi, hz0, hz1, hz2⟩ := info_parts info55
      have hrun := run_append_owned_none (P := Try.prog) W B 22 ty 27 i0 12 Try.underlying22 hi _ 0 [] hown
      exact ⟨_, _, W, by rw [e]; exact hrun, hown, grown_refl _ _⟩
    | some ad => exact go ad cap e (fun j u hj => by simp [cals] at hj)
  · refine go ⟨b, off, none⟩ cap e (fun j u hj => ?_)
    rw [add_at]
    exact hc j u hj
/-- Right reads of a call that nobody answered its client, its beginning, its kind and its moment alone. -/
theorem right_swap {l : List Ca} {x y : Ca} (h : RightP (l ++ [x])) (hc : x.c = y.c) (hb : x.b = y.b) (hk : x.k = y.k) (ha : x.at' = y.at') (hx : x.an = false) (hy : y.an = false) : RightP (l ++ [y]) := by
  obtain ⟨h1, h2, h3⟩ := h
  refine ⟨by simpa using h1, fun z hz => ?_, ?_⟩
  · rcases List.mem_append.1 hz with hz | hz
    · exact h2 z (List.mem_append_left _ hz)
    · rw [List.mem_singleton.1 hz]
      have h9 := h2 x (by simp)
      unfold aloneG timeG at h9 ⊢
      rw [← hc, ← hb, ← hk, ← ha, hy]
      rw [hx] at h9
      exact h9
  · rw [List.pairwise_append] at h3 ⊢
    refine ⟨h3.1, by simp, fun z hz w hw => ?_⟩
    rw [List.mem_singleton.1 hw]
    have h9 := h3.2.2 z hz x (by simp)
    intro e
    have h8 := h9 (e.trans hc.symm)
    rw [← hb]
    refine ⟨h8.1, h8.2.1, fun hlt => ?_⟩
    have h7 := (h8.2.2 hlt).1
    rw [hx] at h7
    cases h7
/-- A call more in a legal order. -/
theorem legal_more {l : List Ca} {o : List Int} (h : (legalG l o).2 = 0) {x y : Ca} (hr : RightP (l ++ [x])) (hc : x.c = y.c) (hb : x.b = y.b) (hk : x.k = y.k) (ha : x.at' = y.at') (hx : x.an = false) (hy : y.an = false) : legalG (l ++ [y]) o = (0, 0) :=
  legal_ok0 ((legal_ok.1 h).more (right_swap hr hc hb hk ha hx hy) hy)
end Go.Proofs.Ythbfjpaimnhpgab
