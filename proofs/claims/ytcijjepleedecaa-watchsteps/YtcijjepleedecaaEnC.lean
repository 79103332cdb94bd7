/- few: the first ones of a list that is told. -/
import Derived.Test.YtcijjepleedecaaEnB
namespace Go.Proofs.Ytcijjepleedecaa.W
open Go.RowKit Go.Maps
set_option linter.unusedVariables false
set_option linter.unusedSimpArgs false
set_option maxRecDepth 100000
attribute [local go_sem] Oper.semAt_some

theorem KpE.boxed {B g : Nat} {W W' : World} {t : TypeId} {v : Value} (h : KpE B W W') (hb : Boxed W g t v) (hg : B ≤ g) (ht : t ≠ 55) : Boxed W' g t v := h.2 g _ hg hb (fun c f e => by cases e; exact ht rfl)
theorem KpE.book {B g : Nat} {W W' : World} (h : KpE B W W') (hg : B ≤ g) {o : Obj} (ho : W.heap[g]? = some o) (hk : Book o) : W'.heap[g]? = some o := h.2 g o hg ho (fun c f e => by rcases hk with ⟨r, rfl⟩ | ⟨d, rfl⟩ <;> cases e)

theorem byt_loop {W : World} {v : Value} {d : List UInt8} (h : Byt W v d) {l : Nat} {r : Loop} (hl : W.heap[l]? = some (.loop r)) (o' : Obj) : Byt (W.putObj l o') v d := by
  rcases h with hh | ⟨b, off, cap, e, hcap, hc⟩
  · exact .inl hh
  · exact .inr ⟨b, off, cap, e, hcap, fun j u hj => (grownBy_putObj' W l o').cell (hc j u hj) (fun e => by
      cases e
      have := hc j u hj
      simp [World.cell?, hl] at this)⟩

/-- Where few stands. -/
def FewI (J : Nat → World → Prop) (l y : Nat) (most : Int) (k : Nat) (W : World) : Prop :=
  k ≤ most.toNat ∧ J k W ∧ Boxed W y 99 (.func (.yield l) #[] #[]) ∧ Boxed W (y + 1) 3 (.int .i64 (most - k))

end Go.Proofs.Ytcijjepleedecaa.W
