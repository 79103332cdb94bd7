/- Regions in which calls are made beside a box that is stored into behind them. -/
import Derived.Test.YtcijjepleedecaaEMz
import Derived.Test.YtcijjepleedecaaEnL
namespace Go.Proofs.Ytcijjepleedecaa.W
open Go.RowKit Go.Maps
set_option linter.unusedVariables false
set_option linter.unusedSimpArgs false

def Blk (w : World) (b : Nat) (cs : Array Value) (t : TypeId) : Prop := w.heap[b]? = some (.cells cs t (0, 0))
theorem Blk.cell {w : World} {b : Nat} {cs : Array Value} {t : TypeId} (h : Blk w b cs t) (i : Nat) : w.cell? ⟨b, i, none⟩ = cs[i]? := by
  have h' : w.heap[b]? = _ := h
  simp [World.cell?, h']
theorem Blk.frozen {w : World} {b : Nat} {cs : Array Value} {t : TypeId} (h : Blk w b cs t) (i : Nat) : w.frozen? ⟨b, i, none⟩ = false := by
  have h' : w.heap[b]? = _ := h
  simp [World.frozen?, h']
theorem Blk.lt {w : World} {b : Nat} {cs : Array Value} {t : TypeId} (h : Blk w b cs t) : b < w.heap.size := (Array.getElem?_eq_some_iff.1 h).1
theorem Blk.kept {w w' : World} {b : Nat} {cs : Array Value} {t : TypeId} {row : Option Nat} (h : Blk w b cs t) (hg : w.grownBy w' row) (hne : some b ≠ row) : Blk w' b cs t := (hg.block b h.lt hne).trans h
section
variable {X : List PanicEntry → List Deferred → World → Prop} {ops : Array Oper}
theorem fork_call {K : Act → Cl → Prop} {a : Act} {C : Cl} {i : Nat} {o : Oper} (ho : ops[i]? = some o) (hw : Region.wanted o (yielded ops a.tmps) = true) (f : FuncId) (args : Array Value) (hr : ∀ w, (execOp a.eval o).run Try.prog w = .ok (.enter f args) w)
    (h : ∀ w, C.now w → Calls Try.prog f args w (fun e w'' => ∃ v, e = .returned v ∧ Behind C K (a.put o.dst v) w'')) : mxOpX Try.prog X ops i K a C := by
  unfold mxOpX
  simp only [ho, hw, if_true]
  exact .inr fun w hC => by rw [hr w]; exact (h w hC).mono fun e w'' hq => .inl hq
def cl (w W : World) : Cl := at0 W (fun W' => w.grownBy W' none)
theorem cl_behind {w W W' : World} {K : Act → Cl → Prop} {a : Act} (hg : w.grownBy W' none) (h : K a (cl w W')) : Behind (cl w W) K a W' :=
  ⟨cl w W', ⟨0, rfl⟩, shut_at0 (fun m => grown_trans hg (grown_drewN _ m none)), fun _ h => h, h⟩
/-- The region's state: what was made since w; the box, if it was made. -/
structure BS (w W : World) (zs : Array Value) (t : TypeId) (bx : Option Nat) : Prop where
  gr : w.grownBy W none
  box : ∀ q, bx = some q → Blk W q zs t ∧ w.heap.size ≤ q
theorem BS.kept {w W W' : World} {zs : Array Value} {t : TypeId} {bx : Option Nat} (h : BS w W zs t bx) (hg : W.grownBy W' none) : BS w W' zs t bx := ⟨grown_trans h.gr hg, fun q e => ⟨(h.box q e).1.kept hg (by simp), (h.box q e).2⟩⟩
/-- The box is made. -/
theorem bs_box {w W : World} (zs : Array Value) {t : TypeId} {K : Act → Cl → Prop} {a : Act} {i : Nat} {o : Oper} (h : BS w W zs t none) (ho : ops[i]? = some o) (hw : Region.wanted o (yielded ops a.tmps) = true) (hrun : ∀ W : World, (execOp a.eval o).run Try.prog W = .ok (.value (.pointer (some ⟨W.heap.size, 0, none⟩))) (W.alloc (.cells zs t)))
    (hK : ∀ K' : Act → Cl → Prop, (∀ a C, K a C → K' a C) → ∀ q W', Hid (BS w W' zs t (some q) ∧ W.grownBy W' none) → K' (a.put o.dst (.pointer (some ⟨q, 0, none⟩))) (cl w W')) : mxOpX Try.prog X ops i K a (cl w W) := by
  refine fork_do ho hw ?_
  rintro _ ⟨m, rfl⟩
  have hg : W.grownBy ((W.drewN m).alloc (.cells zs t)) none := grown_trans (grown_drewN W m none) (World.grownBy_alloc _ _ none)
  refine ⟨_, _, hrun (W.drewN m), cl_behind (grown_trans h.gr hg) (hK K (fun _ _ h => h) _ _ (hid_mk ⟨⟨grown_trans h.gr hg, fun q e => ?_⟩, hg⟩))⟩
  cases e
  exact ⟨heap_alloc_new _ _, h.gr.size⟩
/-- A new row is made. -/
theorem bs_row {w W : World} {zs : Array Value} {t : TypeId} {bx : Option Nat} {K : Act → Cl → Prop} {a : Act} {i : Nat} {o : Oper} (h : BS w W zs t bx) (cs : Array Value) (tr : TypeId) (n : Nat) (ho : ops[i]? = some o) (hw : Region.wanted o (yielded ops a.tmps) = true) (hrun : ∀ W : World, (execOp a.eval o).run Try.prog W = .ok (.value (.slice (some ⟨W.heap.size, 0, none⟩) n n)) (W.alloc (.cells cs tr)))
    (hK : ∀ K' : Act → Cl → Prop, (∀ a C, K a C → K' a C) → ∀ q W', Hid (BS w W' zs t bx ∧ W.grownBy W' none ∧ Blk W' q cs tr) → K' (a.put o.dst (.slice (some ⟨q, 0, none⟩) n n)) (cl w W')) : mxOpX Try.prog X ops i K a (cl w W) := by
  refine fork_do ho hw ?_
  rintro _ ⟨m, rfl⟩
  have hg : W.grownBy ((W.drewN m).alloc (.cells cs tr)) none := grown_trans (grown_drewN W m none) (World.grownBy_alloc _ _ none)
  exact ⟨_, _, hrun (W.drewN m), cl_behind (grown_trans h.gr hg) (hK K (fun _ _ h => h) _ _ (hid_mk ⟨h.kept hg, hg, heap_alloc_new _ _⟩))⟩
/-- A call. -/
theorem bs_call {w W : World} {zs : Array Value} {t : TypeId} {bx : Option Nat} {K : Act → Cl → Prop} {a : Act} {i : Nat} {o : Oper} (h : BS w W zs t bx) (f : FuncId) (args : Array Value) (R : Value → World → World → Prop) (ho : ops[i]? = some o) (hw : Region.wanted o (yielded ops a.tmps) = true) (hr : ∀ w, (execOp a.eval o).run Try.prog w = .ok (.enter f args) w)
    (hc : ∀ W1, W.grownBy W1 none → Calls Try.prog f args W1 fun e W' => ∃ v, e = .returned v ∧ R v W1 W' ∧ W1.grownBy W' none)
    (hK : ∀ K' : Act → Cl → Prop, (∀ a C, K a C → K' a C) → ∀ v W1 W', Hid (BS w W' zs t bx ∧ W.grownBy W1 none ∧ W1.grownBy W' none ∧ R v W1 W') → K' (a.put o.dst v) (cl w W')) : mxOpX Try.prog X ops i K a (cl w W) := by
  refine fork_call ho hw f args hr ?_
  rintro _ ⟨m, rfl⟩
  refine (hc (W.drewN m) (grown_drewN W m none)).mono ?_
  rintro e W' ⟨v, rfl, hR, hg⟩
  have hg' := grown_trans (grown_drewN W m none) hg
  exact ⟨_, rfl, cl_behind (grown_trans h.gr hg') (hK K (fun _ _ h => h) v _ W' (hid_mk ⟨h.kept hg', grown_drewN W m none, hg, hR⟩))⟩
/-- The result is stored in the box. -/
theorem bs_store {w W : World} {zs : Array Value} {t : TypeId} {K : Act → Cl → Prop} {a : Act} {i : Nat} {o : Oper} (q : Nat) (h : BS w W zs t (some q)) (us : Array Value) (L : World → World) (hL : ∀ W, Blk W q zs t → Blk (L W) q us t ∧ W.grownBy (L W) (some q)) (ho : ops[i]? = some o) (hw : Region.wanted o (yielded ops a.tmps) = true)
    (hrun : ∀ W : World, Blk W q zs t → (execOp a.eval o).run Try.prog W = .ok .skip (L W) ∨ ∃ v, (execOp a.eval o).run Try.prog W = .ok (.value v) (L W)) (hd : o.dst = none)
    (hK : ∀ K' : Act → Cl → Prop, (∀ a C, K a C → K' a C) → ∀ W', Hid (w.grownBy W' none ∧ W.grownBy W' (some q) ∧ Blk W' q us t ∧ w.heap.size ≤ q) → K' a (cl w W')) : mxOpX Try.prog X ops i K a (cl w W) := by
  unfold mxOpX
  simp only [ho, hw, if_true]
  refine .inr ?_
  rintro _ ⟨m, rfl⟩
  have hbm : Blk (W.drewN m) q zs t := (h.box q rfl).1
  obtain ⟨l1, l2⟩ := hL _ hbm
  have hg : W.grownBy (L (W.drewN m)) (some q) := grown_trans (grown_drewN W m _) l2
  have hq := (h.box q rfl).2
  have key := cl_behind (W := W) (a := a) (grown_new h.gr hg hq) (hK K (fun _ _ h => h) _ (hid_mk ⟨grown_new h.gr hg hq, hg, l1, hq⟩))
  have hput : ∀ v, a.put o.dst v = a := fun v => by rw [hd]; rfl
  rcases hrun _ hbm with hr | ⟨v, hr⟩
  · rw [hr]
    show Behind (cl w W) K (a.put o.dst undef) _
    rw [hput]
    exact key
  · rw [hr]
    show Behind (cl w W) K (a.put o.dst v) _
    rw [hput]
    exact key
/-- Reads that come first. -/
theorem reads_first {Q : Act → Cl → Prop} (hs : Region.noSelect ops = true) (l : List (Nat × Bool)) (fuel n : Nat) (hn : n = l.length + fuel) (listed listed' : Array Bool) {a : Act} {C : Cl} (hB : orderP .any ops l listed = some listed') (h : wpMixX Try.prog X ops (wpAnyMX Try.prog X .any ops Q fuel listed') l a C) : wpAnyMX Try.prog X .any ops Q n listed a C := by
  subst hn
  exact wpAnyMX_part hs fuel listed' l listed a C hB h
end
end Go.Proofs.Ytcijjepleedecaa.W
