/- Steps of a drawn region taken one by one, whatever the world. -/
import Derived.Test.YtcijjepleedecaaEMy
namespace Go.Proofs.Ytcijjepleedecaa.W
open Go.RowKit Go.Maps
set_option linter.unusedVariables false
set_option linter.unusedSimpArgs false
set_option maxRecDepth 100000
section
variable {P : Program} {X : List PanicEntry → List Deferred → World → Prop} {ops : Array Oper}
/-- The world but for draws. -/
def cT (W : World) : Cl := at0 W (fun _ => True)
theorem shut_cT (W : World) : Shut (cT W) := shut_at0 (fun _ => trivial)
theorem behind_cT {K : Act → Cl → Prop} {a : Act} {W W' : World} (h : K a (cT W')) : Behind (cT W) K a W' :=
  ⟨cT W', ⟨0, rfl⟩, shut_cT _, fun _ _ => trivial, h⟩
theorem t_rd {K : Act → Cl → Prop} {a : Act} {i : Nat} {W : World} {o : Oper} (ho : ops[i]? = some o) (hw : Region.wanted o (yielded ops a.tmps) = true) (v : Value)
    (hr : ∀ m, (execOp a.eval o).run P (W.drewN m) = .ok (.value v) (W.drewN m)) (h : K (a.put o.dst v) (cT W)) : mxOpX P X ops i K a (cT W) := by
  unfold mxOpX
  simp only [ho, hw, if_true]
  refine .inr ?_
  rintro w ⟨m, rfl⟩
  rw [hr m]
  exact ⟨cT W, ⟨m, rfl⟩, shut_cT _, fun _ h => h, h⟩
theorem t_rd1 {K : Act → Cl → Prop} {a : Act} {i : Nat} {W : World} {o : Oper} (ho : ops[i]? = some o) (hw : Region.wanted o (yielded ops a.tmps) = true)
    (h : ∀ K' : Act → Cl → Prop, (∀ a C, K a C → K' a C) → ∃ v, (∀ m, (execOp a.eval o).run P (W.drewN m) = .ok (.value v) (W.drewN m)) ∧ K' (a.put o.dst v) (cT W)) : mxOpX P X ops i K a (cT W) := by
  obtain ⟨v, h1, h2⟩ := h K (fun _ _ h => h)
  exact t_rd ho hw v h1 h2
theorem t_no {K : Act → Cl → Prop} {a : Act} {i : Nat} {C : Cl} {o : Oper} (ho : ops[i]? = some o) (hw : Region.wanted o (yielded ops a.tmps) = false) (h : K (a.put o.dst undef) C) : mxOpX P X ops i K a C := by
  unfold mxOpX
  simp only [ho, hw]
  exact h
theorem t_call {K : Act → Cl → Prop} {a : Act} {i : Nat} {W : World} {o : Oper} (ho : ops[i]? = some o) (hw : Region.wanted o (yielded ops a.tmps) = true) (f : FuncId) (args : Array Value)
    (hr : ∀ w, (execOp a.eval o).run P w = .ok (.enter f args) w) (h : ∀ m, Calls P f args (W.drewN m) fun e w'' => ∃ v, e = .returned v ∧ K (a.put o.dst v) (cT w'')) : mxOpX P X ops i K a (cT W) := by
  unfold mxOpX
  simp only [ho, hw, if_true]
  refine .inr ?_
  rintro w ⟨m, rfl⟩
  rw [hr]
  exact (h m).mono fun e w'' ⟨v, he, hk⟩ => .inl ⟨v, he, behind_cT hk⟩
theorem t_skip {K : Act → Cl → Prop} {a : Act} {i : Nat} {W : World} {o : Oper} (ho : ops[i]? = some o) (hw : Region.wanted o (yielded ops a.tmps) = true)
    (h : ∀ m, ∃ w'', (execOp a.eval o).run P (W.drewN m) = .ok .skip w'' ∧ K (a.put o.dst undef) (cT w'')) : mxOpX P X ops i K a (cT W) := by
  unfold mxOpX
  simp only [ho, hw, if_true]
  refine .inr ?_
  rintro w ⟨m, rfl⟩
  obtain ⟨w'', hr, hk⟩ := h m
  rw [hr]
  exact behind_cT hk
theorem wp_region_t {id : Nat} {Q : Exit → Act → World → Prop} {a : Act} {w : World} (fuel : Nat) (hm : P.follows .mixedOrders = true) (hs : Region.noSelect ops = true) (hl : fuel = ops.size)
    (h : wpAnyMX P (fun _ _ _ => False) .any ops (fun a' C' => ∀ w', C'.now w' → Q .normal a' w') fuel (Array.replicate ops.size false) a (cT w)) : (Code.region id ops true).wp P Q a w :=
  wp_region_fork (X := fun _ _ _ => False) [] fuel (Array.replicate ops.size false) (cT w) hm hs (by simpa using hl) rfl (fun _ _ _ h => h.elim) (shut_cT w) ⟨1, rfl⟩ h
theorem wpAnyMX_mono {md : Region.Mode} {Q Q' : Act → Cl → Prop} (hq : ∀ a C, Q a C → Q' a C) : ∀ (fuel : Nat) (listed : Array Bool) (a : Act) (C : Cl), wpAnyMX P X md ops Q fuel listed a C → wpAnyMX P X md ops Q' fuel listed a C
  | 0, listed, a, C, h => ⟨h.1, hq _ _ h.2⟩
  | fuel + 1, listed, a, C, h => ⟨fun hr => hq _ _ (h.1 hr), fun i hi => mxOp_monoX (fun a C => wpAnyMX_mono hq fuel _ a C) (h.2 i hi)⟩
/-- .. and what follows is walked once, behind all orders. -/
theorem wp_region_tR {id : Nat} {Q : Exit → Act → World → Prop} {a : Act} {w : World} (fuel : Nat) (hm : P.follows .mixedOrders = true) (hs : Region.noSelect ops = true) (hl : fuel = ops.size) (R : World → Prop) (A : Act)
    (h : wpAnyMX P (fun _ _ _ => False) .any ops (fun a' C' => a' = A ∧ ∀ w', C'.now w' → R w') fuel (Array.replicate ops.size false) a (cT w)) (hR : ∀ w', R w' → Q .normal A w') : (Code.region id ops true).wp P Q a w :=
  wp_region_t fuel hm hs hl (wpAnyMX_mono (fun a' C' ⟨e, hk⟩ w' hw => by subst e; exact hR w' (hk w' hw)) _ _ _ _ h)
end
end Go.Proofs.Ytcijjepleedecaa.W
