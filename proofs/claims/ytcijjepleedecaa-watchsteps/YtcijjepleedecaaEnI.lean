/- firstOf, First, TermOf. -/
import Derived.Test.YtcijjepleedecaaEnH
import Derived.Test.YtcijjepleedecaaEMx
namespace Go.Proofs.Ytcijjepleedecaa.W
open Go.RowKit Go.Maps
set_option linter.unusedVariables false
set_option linter.unusedSimpArgs false
set_option maxRecDepth 100000
attribute [local go_sem] Oper.semAt_some

/-- The index of the first entry of a term; 0: none. -/
def firstI (es : List Ent) (t : Int) : Int := match es.find? (fun x => x.term == t) with | some x => x.index | none => 0
theorem firstI_drop {es : List Ent} {t : Int} {k : Nat} {x : Ent} (h : firstI es t = firstI (es.drop k) t) (hx : es[k]? = some x) : firstI es t = if x.term = t then x.index else firstI (es.drop (k + 1)) t := by
  rw [h]
  obtain ⟨hk, rfl⟩ := List.getElem?_eq_some_iff.1 hx
  rw [List.drop_eq_getElem_cons hk]
  unfold firstI
  rw [List.find?_cons]
  by_cases hc : es[k].term = t
  · simp [hc]
  · have : (es[k].term == t) = false := beq_eq_false_iff_ne.2 hc
    simp [hc, this]
/-- Where firstOf stands. -/
structure FiI (D : World → Prop) (w : World) (es : List Ent) (t0 : Int) (k : Nat) (W : World) : Prop where
  d : D W
  gr : w.grownBy W none
  tm : Boxed W (w.heap.size + 1) 3 (.int .i64 t0)
  res : ∃ v, Boxed W (w.heap.size + 2) 3 (.int .i64 v)
  at_ : firstI es t0 = firstI (es.drop k) t0
theorem FiI.kept {D : World → Prop} {w : World} {es : List Ent} {t0 : Int} {k : Nat} {X Y : World} {row : Option Nat} {lo hi : Nat} (h : FiI D w es t0 k X)
    (hD : ∀ (X Y : World) (row : Option Nat), D X → X.grownBy Y row → (∀ r, row = some r → w.heap.size ≤ r ∧ (lo ≤ r → hi ≤ r)) → D Y) (hg : X.grownBy Y row) (hb : BkF hi X row) (hlo : lo ≤ hi) (h3 : w.heap.size + 3 ≤ lo) : FiI D w es t0 k Y := by
  obtain ⟨q1, q2, q3, ⟨v, q4⟩, q5⟩ := h
  refine ⟨hD _ _ _ q1 hg (fun r e => ?_), hb.grown q2 hg (by omega), boxed_low q3 hg hb (by omega), ⟨v, boxed_low q4 hg hb (by omega)⟩, q5⟩
  have := (hb r e).1
  omega

end Go.Proofs.Ytcijjepleedecaa.W
