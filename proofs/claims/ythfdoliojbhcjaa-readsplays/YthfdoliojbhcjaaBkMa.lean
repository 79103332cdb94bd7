/- ReadsMajority: the pure side. -/
import Derived.Test.YthfdoliojbhcjaaBkT
namespace Go.Proofs.Ythfdoliojbhcjaa
open Go.RowKit Go.Maps
set_option linter.unusedVariables false
set_option linter.unusedSimpArgs false
set_option maxRecDepth 100000

theorem owns_keeps {W W' : World} {F : Nat → Prop} {B : Nat} {e : TypeId} {size : Nat} {v : Value} {n : Nat} {xs : List Value} (h : W.ownsRow B e size v n xs) (hk : Keeps F W W') (hr : ∀ g, v.ownBlock = some g → ¬ F g) : W'.ownsRow B e size v n xs := by
  refine ⟨h.1, ?_⟩
  rcases h.2 with hn | ⟨g, cap, cur, hv, hb, hh, rest⟩
  · exact .inl hn
  · exact .inr ⟨g, cap, cur, hv, hb, (hk.block g (Array.getElem?_eq_some_iff.1 hh).1 (hr g (by rw [hv]; rfl))).trans hh, rest⟩
theorem IsB.apart {W : World} {B b : Nat} {v : Value} {g : Bk} (h : IsB W B b v g) {B' : Nat} {e : TypeId} {size : Nat} {u : Value} {n : Nat} {xs : List Value} (ho : W.ownsRow B' e size u n xs) (h1 : e ≠ 45) (h2 : e ≠ 66) : ∀ k, u.ownBlock = some k → ¬ Ofb b v k := fun k hk hf => by
  obtain ⟨_, c, hc⟩ := own_low ho k hk
  rcases hf with rfl | hf
  · have := h.blk
    unfold Blk at this
    rw [this] at hc
    simp at hc
    exact h1 hc.2.symm
  · obtain ⟨_, c', hc'⟩ := own_low h.row k hf
    rw [hc'] at hc
    simp at hc
    exact h2 hc.2.symm
theorem OwnI.keeps {W W' : World} {B b : Nat} {v : Value} {g : Bk} (hb : IsB W B b v g) {B' : Nat} {u : Value} {l : List Int} (h : OwnI W B' u l) (hk : Keeps (Ofb b v) W W') : OwnI W' B' u l := owns_keeps h hk (hb.apart h (by decide) (by decide))
/-! ### The pure side -/
def pM (m R : Nat) (hd : List Int) (j : Nat) : Bool := decide (j = m) || (decide (j < hd.length) && decide (R ≤ rst (hd.getD j 0) 50))
def cM (m R : Nat) (hd : List Int) (i : Nat) : Nat := ((List.range i).filter (pM m R hd)).length
theorem cM_succ (m R : Nat) (hd : List Int) (i : Nat) : cM m R hd (i + 1) = cM m R hd i + (if pM m R hd i then 1 else 0) := by
  unfold cM
  rw [List.range_succ, List.filter_append, List.length_append]
  simp only [List.filter_cons, List.filter_nil]
  split <;> rfl
def InvM (m R : Nat) (hd : List Int) (i : Nat) (H : List Int) : Prop := H.length = 16 ∧ ∀ j, j < 16 → ((R : Int) ≤ H.getD j 0 ↔ j = m ∨ (j < i ∧ pM m R hd j = true))
theorem inv_new {m R : Nat} {hd : List Int} (hm : m < 16) (hR : R < 50) : InvM m R hd 0 (aloneL m) := by
  refine ⟨alone_len m, fun j hj => ?_⟩
  by_cases e : j = m
  · subst e
    rw [List.getD_eq_getElem?_getD, alone_me hj]
    simp
    omega
  · have : (aloneL m).getD j 0 = -1 := by
      unfold aloneL
      rw [List.getD_eq_getElem?_getD, List.getElem?_set_ne (fun h => e h.symm)]
      rw [List.getElem?_replicate, if_pos hj]
      rfl
    rw [this]
    constructor
    · intro h; omega
    · rintro (h | h)
      · exact absurd h e
      · omega
theorem inv_skip {m R i : Nat} {hd H : List Int} (h : InvM m R hd i H) (hi : hd.length ≤ i) : InvM m R hd (i + 1) H := by
  refine ⟨h.1, fun j hj => (h.2 j hj).trans ?_⟩
  constructor
  · rintro (e | e)
    · exact .inl e
    · exact .inr ⟨by omega, e.2⟩
  · rintro (e | ⟨e1, e2⟩)
    · exact .inl e
    · by_cases hj' : j < i
      · exact .inr ⟨hj', e2⟩
      · have hji : j = i := by omega
        unfold pM at e2
        simp at e2
        rcases e2 with e2 | e2
        · exact .inl e2
        · omega
theorem inv_hear {m R i : Nat} {hd H : List Int} (h : InvM m R hd i H) (hi : i < hd.length) (hi2 : i < 16) : InvM m R hd (i + 1) (H.set i (max (H.getD i 0) (rst (hd.getD i 0) 50 : Nat))) := by
  refine ⟨by rw [List.length_set]; exact h.1, fun j hj => ?_⟩
  by_cases e : j = i
  · subst e
    rw [show (H.set j (max (H.getD j 0) ((rst (hd.getD j 0) 50 : Nat) : Int))).getD j 0 = max (H.getD j 0) ((rst (hd.getD j 0) 50 : Nat) : Int) by
      rw [List.getD_eq_getElem?_getD, List.getElem?_set_self (by rw [h.1]; exact hj)]; rfl]
    have h2 := h.2 j hj
    have h3 : pM m R hd j = true ↔ j = m ∨ R ≤ rst (hd.getD j 0) 50 := by unfold pM; simp [hi]
    rw [h3]
    have h4 : ((R : Int) ≤ max (H.getD j 0) ((rst (hd.getD j 0) 50 : Nat) : Int)) ↔ (R : Int) ≤ H.getD j 0 ∨ R ≤ rst (hd.getD j 0) 50 := by omega
    rw [h4, h2]
    constructor
    · rintro ((e | e) | e)
      · exact .inl e
      · omega
      · exact .inr ⟨by omega, .inr e⟩
    · rintro (e | ⟨_, e | e⟩)
      · exact .inl (.inl e)
      · exact .inl (.inl e)
      · exact .inr e
  · rw [show (H.set i (max (H.getD i 0) ((rst (hd.getD i 0) 50 : Nat) : Int))).getD j 0 = H.getD j 0 by
      rw [List.getD_eq_getElem?_getD, List.getElem?_set_ne (fun x => e x.symm), ← List.getD_eq_getElem?_getD]]
    rw [h.2 j hj]
    constructor
    · rintro (e | e)
      · exact .inl e
      · exact .inr ⟨by omega, e.2⟩
    · rintro (e | e)
      · exact .inl e
      · exact .inr ⟨by omega, e.2⟩
def seqL (n : Nat) : List Int := (List.range n).map (fun i : Nat => (i : Int))
theorem seqL_succ (n : Nat) : seqL (n + 1) = seqL n ++ [(n : Int)] := by unfold seqL; rw [List.range_succ, List.map_append]; rfl
theorem seqL_len (n : Nat) : (seqL n).length = n := by simp [seqL]
theorem mem_seqL {n : Nat} {x : Int} (h : x ∈ seqL n) : ∃ i : Nat, i < n ∧ x = i := by
  unfold seqL at h
  obtain ⟨i, hi, rfl⟩ := List.mem_map.1 h
  exact ⟨i, List.mem_range.1 hi, rfl⟩
theorem dd_seq : ∀ n, dd (seqL n) = seqL n
  | 0 => rfl
  | n + 1 => by
    rw [seqL_succ, dd_snoc_new, dd_seq n]
    intro h
    obtain ⟨i, hi, e⟩ := mem_seqL h
    omega
theorem won_seq {m R N : Nat} {hd H : List Int} (h : InvM m R hd N H) (hN : N ≤ 16) (hm : m < N) : wonB (seqL N) (thL H R) = decide (N < 2 * cM m R hd N) := by
  unfold wonB cnt
  rw [dd_seq, seqL_len]
  have : ((seqL N).filter (fun x => decide (x ∈ thL H R))).length = cM m R hd N := by
    unfold seqL cM
    rw [List.filter_map, List.length_map]
    congr 1
    refine List.filter_congr (fun j hj => ?_)
    have hj' : j < N := List.mem_range.1 hj
    rw [Function.comp, Bool.eq_iff_iff, decide_eq_true_eq, mem_thL]
    have h2 := h.2 j (by omega)
    constructor
    · rintro ⟨i, hi, e, hle⟩
      obtain rfl : j = i := by omega
      rcases h2.1 hle with e | e
      · subst e; simp [pM]
      · exact e.2
    · intro hp
      exact ⟨j, by omega, rfl, h2.2 (.inr ⟨hj', hp⟩)⟩
  rw [this]
theorem seq_wf (n : Nat) (hn : n ≤ 16) : ∀ x ∈ seqL n, Wf x := fun x hx => by
  obtain ⟨i, hi, rfl⟩ := mem_seqL hx
  simp [Wf, Lit.wf, IntKind.min, IntKind.max, IntKind.signed, IntKind.bits]
  omega
theorem done_one {S : List Int} {g : Bk} {r : Rd} (h : g.L = [r]) : (doneB S g).length = if wonB S (thL g.H r.rd) then 1 else 0 := by
  unfold doneB
  rw [h]
  show ([r].filter (fun r => wonB S (thL g.H r.rd))).length = _
  simp only [List.filter_cons, List.filter_nil]
  split <;> rfl
end Go.Proofs.Ythfdoliojbhcjaa
