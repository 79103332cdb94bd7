/- clash. -/
import Derived.Test.YtcijjepleedecaaEnJ
namespace Go.Proofs.Ytcijjepleedecaa.W
open Go.RowKit Go.Maps
set_option linter.unusedVariables false
set_option linter.unusedSimpArgs false
set_option maxRecDepth 100000
attribute [local go_sem] Oper.semAt_some

/-- The index of the first one whose term is another one than that here; 0: none. -/
def clashZ (b t : Int) (es : List Ent) : List Ent → Int
  | [] => 0
  | x :: r => if x.index ≤ b + es.length ∧ x.term ≠ termA b t es x.index then x.index else clashZ b t es r
theorem clashZ_drop {b t : Int} {es l : List Ent} {k : Nat} {x : Ent} (h : clashZ b t es l = clashZ b t es (l.drop k)) (hx : l[k]? = some x) : clashZ b t es l = if x.index ≤ b + es.length ∧ x.term ≠ termA b t es x.index then x.index else clashZ b t es (l.drop (k + 1)) := by
  rw [h]
  obtain ⟨hk, rfl⟩ := List.getElem?_eq_some_iff.1 hx
  rw [List.drop_eq_getElem_cons hk]
  rfl
theorem from_high {b2 t2 b : Int} {l : List Ent} {k : Nat} {x : Ent} (hgo : goB b2 t2 l = true) (hx : (l.drop (plc b2 l.length (b + 1)))[k]? = some x) : b + 1 ≤ x.index := by
  rw [List.getElem?_drop] at hx
  have h1 := (goB_at l hgo _ x hx).1
  have h2 := (List.getElem?_eq_some_iff.1 hx).1
  unfold plc at h1 h2
  omega
/-- Where clash stands. -/
structure ClI (D : World → Prop) (w : World) (p5 : Nat) (b t : Int) (lv : Value) (es l : List Ent) (k : Nat) (W : World) : Prop where
  d : D W
  gr : w.grownBy W none
  vb : VB W w.heap.size b t lv
  res : ∃ v, Boxed W (w.heap.size + 2) 3 (.int .i64 v)
  lst : Boxed W p5 3 (.int .i64 (b + es.length))
  at_ : clashZ b t es l = clashZ b t es (l.drop k)
theorem VB.low {W W' : World} {B g : Nat} {b t : Int} {lv : Value} {row : Option Nat} (h : VB W g b t lv) (hg : W.grownBy W' row) (hb : BkF B W row) (hk : g < B) : VB W' g b t lv := h.kept hg (hb.low hk)
theorem ClI.kept {D : World → Prop} {w : World} {p5 : Nat} {b t : Int} {lv : Value} {es l : List Ent} {k : Nat} {X Y : World} {row : Option Nat} {lo hi : Nat} (h : ClI D w p5 b t lv es l k X)
    (hD : ∀ (X Y : World) (row : Option Nat), D X → X.grownBy Y row → (∀ r, row = some r → w.heap.size ≤ r ∧ (lo ≤ r → hi ≤ r)) → D Y) (hg : X.grownBy Y row) (hb : BkF hi X row) (hlo : lo ≤ hi) (h5 : p5 < lo) (l5 : w.heap.size + 3 ≤ p5) : ClI D w p5 b t lv es l k Y := by
  obtain ⟨q1, q2, q3, ⟨v, q4⟩, q5, q6⟩ := h
  refine ⟨hD _ _ _ q1 hg (fun r e => ?_), hb.grown q2 hg (by omega), q3.low hg hb (by omega), ⟨v, boxed_low q4 hg hb (by omega)⟩, boxed_low q5 hg hb (by omega), q6⟩
  have := (hb r e).1
  omega

end Go.Proofs.Ytcijjepleedecaa.W
