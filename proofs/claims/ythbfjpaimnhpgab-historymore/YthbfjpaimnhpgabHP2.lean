/- history, pure: one more call; calls that a log answered. -/
import Derived.Test.YthbfjpaimnhpgabHP
namespace Go.Proofs.Ythbfjpaimnhpgab

set_option linter.unusedVariables false
set_option linter.unusedSimpArgs false

theorem get_app_l {l : List Ca} {x : Ca} {i : Nat} (h : i < l.length) : (l ++ [x])[i]! = l[i]! := by
  rw [getElem!_pos _ i (by simp; omega), getElem!_pos l i h, List.getElem_append_left h]
theorem get_app_r (l : List Ca) (x : Ca) : (l ++ [x])[l.length]! = x := by
  rw [getElem!_pos _ l.length (by simp)]; simp
/-- A call more, that nobody answered, and that does not stand in it. -/
theorem OkG.more {l : List Ca} {o : List Int} (h : OkG l o) {x : Ca} (hr : RightP (l ++ [x])) (hx : x.an = false) : OkG (l ++ [x]) o := by
  have ho : OrdP (l ++ [x]) o := ⟨fun k hk => ⟨(h.ord.1 k hk).1, by have := (h.ord.1 k hk).2; simp; omega⟩, h.ord.2⟩
  have hrow : rowG (l ++ [x]) o = rowG l o := by
    rw [rowG_map ho.1, rowG_map h.ord.1]
    apply List.map_congr_left
    intro k hk
    exact get_app_l (by have := h.ord.1 k hk; omega)
  refine ⟨hr, ho, fun i hi ha => ?_, by rw [hrow]; exact h.late, by rw [hrow]; exact h.tru⟩
  by_cases hl : i < l.length
  · rw [get_app_l hl] at ha; exact h.all i hl ha
  · have : i = l.length := by simp at hi; omega
    subst this
    rw [get_app_r, hx] at ha; cases ha

/-! ### Made -/
def idsG (n : Nat) : List Int := (List.range n).map (fun (i : Nat) => (i : Int))
theorem idsG_len (n : Nat) : (idsG n).length = n := by simp [idsG]
theorem idsG_succ (n : Nat) : idsG (n + 1) = idsG n ++ [(n : Int)] := by simp [idsG, List.range_succ]
theorem ord_ids (l : List Ca) : OrdP l (idsG l.length) := by
  refine ⟨fun k hk => ?_, ?_⟩
  · obtain ⟨i, hi, rfl⟩ := List.mem_map.1 hk
    have := List.mem_range.1 hi
    omega
  · unfold idsG List.Nodup
    rw [List.pairwise_map]
    exact (List.nodup_range (n := l.length)).imp (fun h e => h (by omega))
theorem row_ids (l : List Ca) : rowG l (idsG l.length) = l := by
  rw [rowG_map (ord_ids l).1]
  apply List.ext_getElem (by simp [idsG])
  intro i h1 h2
  simp [idsG, h2]
structure OneMade (i : Nat) (x : Ca) : Prop where
  c : x.c = i
  alone : aloneG x = true
  b : x.b ≤ 10 * i
  e : 10 * i < x.e
  an : x.an = true
def MadeG (l : List Ca) : Prop := ∀ i (hi : i < l.length), OneMade i l[i]
theorem MadeG.nil : MadeG [] := fun i hi => by simp at hi
theorem MadeG.snoc {l : List Ca} (h : MadeG l) {x : Ca} (hx : OneMade l.length x) : MadeG (l ++ [x]) := fun i hi => by
  by_cases hl : i < l.length
  · rw [List.getElem_append_left hl]; exact h i hl
  · have : i = l.length := by simp at hi; omega
    subst this
    simpa using hx
theorem MadeG.set {l : List Ca} (h : MadeG l) {k : Nat} {x : Ca} (hx : OneMade k x) : MadeG (l.set k x) := fun i hi => by
  rw [List.getElem_set]
  split
  · rename_i e; subst e; exact hx
  · exact h i (by simpa using hi)
theorem MadeG.right {l : List Ca} (h : MadeG l) (hl : l.length ≤ 2000) : RightP l := by
  refine ⟨hl, fun x hx => ?_, ?_⟩
  · obtain ⟨i, hi, rfl⟩ := List.getElem_of_mem hx
    exact (h i hi).alone
  · rw [List.pairwise_iff_getElem]
    intro i j hi hj hij e
    have := (h i hi).c
    have := (h j hj).c
    omega
theorem made_late : ∀ (l : List Ca) (n : Nat), (∀ i (hi : i < l.length), l[i].b ≤ 10 * (n + i : Nat) ∧ 10 * (n + i : Nat) < l[i].e) → lateG l = none
  | [], _, _ => rfl
  | x :: l, n, h => by
    have h0 := h 0 (by simp)
    have ih := made_late l (n + 1) (fun i hi => by
      have := h (i + 1) (by simpa using hi)
      simp only [List.getElem_cons_succ] at this
      rw [show n + 1 + i = n + (i + 1) by omega]
      exact this)
    simp only [lateG]
    rw [if_neg, ih]; rfl
    intro ha
    obtain ⟨y, hy, h1⟩ := List.any_eq_true.1 ha
    obtain ⟨i, hi, rfl⟩ := List.getElem_of_mem hy
    have h2 := h (i + 1) (by simpa using hi)
    simp only [List.getElem_cons_succ, List.getElem_cons_zero] at h2 h0
    simp only [Bool.and_eq_true, decide_eq_true_eq] at h1
    omega
theorem MadeG.legal {l : List Ca} (h : MadeG l) (hl : l.length ≤ 2000) : legalG l (idsG l.length) = (match untrueG ⟨0, []⟩ l with
      | some i => (i, 51)
      | none => (0, 0)) := by
  unfold legalG
  have hall := (all_in (ord_ids l)).2 (fun i hi _ => List.mem_map.2 ⟨i, List.mem_range.2 hi, rfl⟩)
  rw [if_neg (fun e => e ⟨h.right hl, ord_iff.2 (ord_ids l)⟩), if_neg (Nat.not_lt.2 hall), row_ids, made_late l 0 (fun i hi => by
    have := h i hi
    rw [Nat.zero_add]
    exact ⟨this.b, this.e⟩)]
  all_goals rfl
/-- Each fits the log as it stands. -/
def FitsAll (l : List Ca) : Prop := ∀ p (hp : p < l.length), fitsM ((l.take p).foldl doM ⟨0, []⟩) l[p] = true
theorem FitsAll.nil : FitsAll [] := fun p hp => by simp at hp
theorem FitsAll.snoc {l : List Ca} (h : FitsAll l) {x : Ca} (hx : fitsM (l.foldl doM ⟨0, []⟩) x = true) : FitsAll (l ++ [x]) := fun p hp => by
  by_cases hl : p < l.length
  · rw [List.getElem_append_left hl, List.take_append_of_le_length (Nat.le_of_lt hl)]; exact h p hl
  · have : p = l.length := by simp at hp; omega
    subst this
    simpa using hx
theorem FitsAll.none {l : List Ca} (h : FitsAll l) : untrueG ⟨0, []⟩ l = none := by
  cases hu : untrueG ⟨0, []⟩ l with
  | none => rfl
  | some p =>
    have hp : p < l.length := by
      have : ∀ (l : List Ca) (m : Mo) p, untrueG m l = some p → p < l.length := by
        intro l
        induction l with
        | nil => intro m p h; cases h
        | cons x l ih =>
          intro m p h
          simp only [untrueG] at h
          split at h
          · simp at h; subst h; simp
          · rw [Option.map_eq_some_iff] at h
            obtain ⟨q, hq, rfl⟩ := h
            have := ih _ _ hq
            simp; omega
      exact this _ _ _ hu
    have := ((untrue_iff p hp).1 hu).1.2
    rw [h p hp] at this; cases this
/-- One number changed. -/
theorem FitsAll.bad {l : List Ca} (h : FitsAll l) {k : Nat} (hk : k < l.length) {x : Ca} (ha : x.an = true) (hx : fitsM ((l.take k).foldl doM ⟨0, []⟩) x = false) : untrueG ⟨0, []⟩ (l.set k x) = some k := by
  refine (untrue_iff k (by simpa using hk)).2 ⟨⟨by simpa using ha, ?_⟩, fun q hq _ => ?_⟩
  · rw [List.getElem_set_self]
    rw [List.take_set_of_le (Nat.le_refl _)]
    exact hx
  · rw [List.getElem_set_ne (by omega), List.take_set_of_le (Nat.le_of_lt hq)]
    exact h q (by omega)
theorem legal_made {l : List Ca} (h : MadeG l) (hl : l.length ≤ 2000) (hf : FitsAll l) : legalG l (idsG l.length) = (0, 0) := by rw [h.legal hl, hf.none]
theorem legal_bad {l : List Ca} (h : MadeG l) (hl : l.length ≤ 2000) (hf : FitsAll l) {k : Nat} (hk : k < l.length) {x : Ca} (hx : OneMade k x) (hb : fitsM ((l.take k).foldl doM ⟨0, []⟩) x = false) : legalG (l.set k x) (idsG l.length) = (k, 51) := by
  have := (h.set hx (k := k)).legal (by simpa using hl)
  rw [List.length_set] at this
  rw [this, hf.bad hk hx.an hb]
/-- The answers of the log, as they are written down. -/
theorem fits_of_put (m : Mo) (x : Ca) (hk : x.k = 1) : fitsM m x = decide (x.nu = m.next) := by unfold fitsM; rw [if_pos hk]
theorem fits_of_trim (m : Mo) (x : Ca) (hk : x.k = 3) : fitsM m x = decide (x.st = (trimM m x.fr).s) := by unfold fitsM; rw [if_neg (by omega), if_pos hk]
theorem fits_of_get (m : Mo) (x : Ca) (hk : x.k = 2) : fitsM m x = (hasM m x.fr && decide (x.rs = getM m x.fr x.mo) && decide (x.nu = m.next) && decide (x.st = m.s)) := by unfold fitsM; rw [if_neg (by omega), if_neg (by omega)]
end Go.Proofs.Ythbfjpaimnhpgab
