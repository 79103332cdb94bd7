/- Steps of a region in which calls are made beside a box for a server. -/
import Derived.Test.YtgplhgogjcgmeaaVMx
namespace Go.Proofs.Ytgplhgogjcgmeaa
open Go.RowKit Go.Maps
set_option linter.unusedVariables false
set_option linter.unusedSimpArgs false
set_option maxRecDepth 100000

def Blk (w : World) (b : Nat) (cs : Array Value) (t : TypeId) : Prop := w.heap[b]? = some (.cells cs t (0, 0))
theorem Blk.cell {w : World} {b : Nat} {cs : Array Value} {t : TypeId} (h : Blk w b cs t) (i : Nat) : w.cell? ⟨b, i, none⟩ = cs[i]? := by
  unfold Blk at h; simp [World.cell?, h]
theorem Blk.frozen {w : World} {b : Nat} {cs : Array Value} {t : TypeId} (h : Blk w b cs t) (i : Nat) : w.frozen? ⟨b, i, none⟩ = false := by
  unfold Blk at h; simp [World.frozen?, h]
theorem Blk.lt {w : World} {b : Nat} {cs : Array Value} {t : TypeId} (h : Blk w b cs t) : b < w.heap.size := (Array.getElem?_eq_some_iff.1 h).1
theorem Blk.kept {w w' : World} {b : Nat} {cs : Array Value} {t : TypeId} {row : Option Nat} (h : Blk w b cs t) (hg : w.grownBy w' row) (hne : some b ≠ row) : Blk w' b cs t := (hg.block b h.lt hne).trans h
theorem Blk.set {w : World} {b : Nat} {cs : Array Value} {t : TypeId} (h : Blk w b cs t) (i : Nat) (v : Value) : Blk (w.setCell ⟨b, i, none⟩ v) b (cs.setIfInBounds i v) t := by
  unfold Blk at *
  simp [World.setCell, Array.getElem?_modify, h]
theorem grown_setCell (w : World) (b i : Nat) (v : Value) : w.grownBy (w.setCell ⟨b, i, none⟩ v) (some b) :=
  ⟨rfl, rfl, rfl, by simp [World.setCell], fun k _ hne => Below.heap_setCell _ _ _ _ (fun e => hne (by rw [e]))⟩
def laid5 (W : World) (q : Nat) (u0 u1 u2 u3 u4 : Value) : World := ((((W.setCell ⟨q, 0, none⟩ u0).setCell ⟨q, 1, none⟩ u1).setCell ⟨q, 2, none⟩ u2).setCell ⟨q, 3, none⟩ u3).setCell ⟨q, 4, none⟩ u4
theorem blk_laid5 {W : World} {q : Nat} {v0 v1 v2 v3 v4 : Value} {t : TypeId} (h : Blk W q #[v0, v1, v2, v3, v4] t) (u0 u1 u2 u3 u4 : Value) : Blk (laid5 W q u0 u1 u2 u3 u4) q #[u0, u1, u2, u3, u4] t :=
  Blk.set (Blk.set (Blk.set (Blk.set (Blk.set h 0 u0) 1 u1) 2 u2) 3 u3) 4 u4
theorem grown_laid5 (W : World) (q : Nat) (u0 u1 u2 u3 u4 : Value) : W.grownBy (laid5 W q u0 u1 u2 u3 u4) (some q) :=
  grown_trans (grown_setCell _ _ _ _) (grown_trans (grown_setCell _ _ _ _) (grown_trans (grown_setCell _ _ _ _) (grown_trans (grown_setCell _ _ _ _) (grown_setCell _ _ _ _))))
abbrev zer : Array Value := #[.int .i64 0, .int .i64 0, .int .i64 0, .int .i64 0, .bool false]
def megC (m : Meg) : Array Value := #[.int .i64 m.t, .int .i64 m.f, .int .i64 m.i, .int .i64 m.l, .bool m.fr]

section
variable {X : List PanicEntry → List Deferred → World → Prop} {ops : Array Oper}
theorem fork_call {K : Act → Cl → Prop} {a : Act} {C : Cl} {i : Nat} {o : Oper} (ho : ops[i]? = some o) (hw : Region.wanted o (yielded ops a.tmps) = true) (f : FuncId) (args : Array Value) (hr : ∀ w, (execOp a.eval o).run Try.prog w = .ok (.enter f args) w)
    (h : ∀ w, C.now w → Calls Try.prog f args w (fun e w'' => ∃ v, e = .returned v ∧ Behind C K (a.put o.dst v) w'')) : mxOpX Try.prog X ops i K a C := by
  unfold mxOpX
  simp only [ho, hw, if_true]
  exact .inr fun w hC => by rw [hr w]; exact (h w hC).mono fun e w'' hq => .inl hq
def cl (w W : World) : Cl := at0 W (fun W' => w.grownBy W' none)
theorem cl_behind {w W W' : World} {K : Act → Cl → Prop} {a : Act} (hg : w.grownBy W' none) (h : K a (cl w W')) : Behind (cl w W) K a W' :=
  ⟨cl w W', ⟨0, rfl⟩, shut_at0 (fun m => grown_trans hg (grown_drewN _ m none)), fun _ h => h, h⟩
/-- The region's state: what was made since w; the box, if it was made. -/
structure BS (w W : World) (t : TypeId) (bx : Option Nat) : Prop where
  gr : w.grownBy W none
  box : ∀ q, bx = some q → Blk W q zer t ∧ w.heap.size ≤ q
theorem BS.kept {w W W' : World} {t : TypeId} {bx : Option Nat} (h : BS w W t bx) (hg : W.grownBy W' none) : BS w W' t bx := ⟨grown_trans h.gr hg, fun q e => ⟨(h.box q e).1.kept hg (by simp), (h.box q e).2⟩⟩
/-- The box is made. -/
theorem bs_box {w W : World} {t : TypeId} {K : Act → Cl → Prop} {a : Act} {i : Nat} {o : Oper} (h : BS w W t none) (ho : ops[i]? = some o) (hw : Region.wanted o (yielded ops a.tmps) = true) (hrun : ∀ W : World, (execOp a.eval o).run Try.prog W = .ok (.value (.pointer (some ⟨W.heap.size, 0, none⟩))) (W.alloc (.cells zer t)))
    (hK : ∀ K' : Act → Cl → Prop, (∀ a C, K a C → K' a C) → ∀ q W', Hid (BS w W' t (some q)) → K' (a.put o.dst (.pointer (some ⟨q, 0, none⟩))) (cl w W')) : mxOpX Try.prog X ops i K a (cl w W) := by
  refine fork_do ho hw ?_
  rintro _ ⟨m, rfl⟩
  have hg : W.grownBy ((W.drewN m).alloc (.cells zer t)) none := grown_trans (grown_drewN W m none) (World.grownBy_alloc _ _ none)
  refine ⟨_, _, hrun (W.drewN m), cl_behind (grown_trans h.gr hg) (hK K (fun _ _ h => h) _ _ (hid_mk ⟨grown_trans h.gr hg, fun q e => ?_⟩))⟩
  cases e
  exact ⟨heap_alloc_new _ _, h.gr.size⟩
/-- A call. -/
theorem bs_call {w W : World} {t : TypeId} {bx : Option Nat} {K : Act → Cl → Prop} {a : Act} {i : Nat} {o : Oper} (h : BS w W t bx) (f : FuncId) (args : Array Value) (V : Value) (ho : ops[i]? = some o) (hw : Region.wanted o (yielded ops a.tmps) = true) (hr : ∀ w, (execOp a.eval o).run Try.prog w = .ok (.enter f args) w)
    (hc : ∀ W, Calls Try.prog f args W fun e W' => e = .returned V ∧ W.grownBy W' none)
    (hK : ∀ K' : Act → Cl → Prop, (∀ a C, K a C → K' a C) → ∀ W', Hid (BS w W' t bx) → K' (a.put o.dst V) (cl w W')) : mxOpX Try.prog X ops i K a (cl w W) := by
  refine fork_call ho hw f args hr ?_
  rintro _ ⟨m, rfl⟩
  refine (hc (W.drewN m)).mono ?_
  rintro e W' ⟨rfl, hg⟩
  have hg' := grown_trans (grown_drewN W m none) hg
  exact ⟨_, rfl, cl_behind (grown_trans h.gr hg') (hK K (fun _ _ h => h) W' (hid_mk (h.kept hg')))⟩
/-- The result is stored in the box. -/
theorem bs_store {w W : World} {t : TypeId} {K : Act → Cl → Prop} {a : Act} {i : Nat} {o : Oper} (q : Nat) (h : BS w W t (some q)) (u0 u1 u2 u3 u4 : Value) (ho : ops[i]? = some o) (hw : Region.wanted o (yielded ops a.tmps) = true)
    (hrun : ∀ W : World, Blk W q zer t → (execOp a.eval o).run Try.prog W = .ok .skip (laid5 W q u0 u1 u2 u3 u4) ∨ ∃ v, (execOp a.eval o).run Try.prog W = .ok (.value v) (laid5 W q u0 u1 u2 u3 u4)) (hd : o.dst = none)
    (hK : ∀ K' : Act → Cl → Prop, (∀ a C, K a C → K' a C) → ∀ W', Hid (w.grownBy W' none ∧ Blk W' q #[u0, u1, u2, u3, u4] t ∧ w.heap.size ≤ q) → K' a (cl w W')) : mxOpX Try.prog X ops i K a (cl w W) := by
  unfold mxOpX
  simp only [ho, hw, if_true]
  refine .inr ?_
  rintro _ ⟨m, rfl⟩
  have hbm : Blk (W.drewN m) q zer t := (h.box q rfl).1
  have hg : W.grownBy (laid5 (W.drewN m) q u0 u1 u2 u3 u4) (some q) := grown_trans (grown_drewN W m _) (grown_laid5 _ _ _ _ _ _ _)
  have hq := (h.box q rfl).2
  have key := cl_behind (W := W) (a := a) (grown_new h.gr hg hq) (hK K (fun _ _ h => h) _ (hid_mk ⟨grown_new h.gr hg hq, blk_laid5 hbm _ _ _ _ _, hq⟩))
  have hput : ∀ v, a.put o.dst v = a := fun v => by rw [hd]; rfl
  rcases hrun _ hbm with hr | ⟨v, hr⟩
  · rw [hr]
    show Behind (cl w W) K (a.put o.dst undef) _
    rw [hput]
    exact key
  · rw [hr]
    show Behind (cl w W) K (a.put o.dst v) _
    rw [hput]
    exact key
/-- A call in a region without a box. -/
theorem bm_call {w W : World} {Q : Act → Cl → Prop} {a : Act} {i : Nat} {rest : List (Nat × Bool)} {o : Oper} (h : w.grownBy W none) (f : FuncId) (args : Array Value) (V : Value) (ho : ops[i]? = some o) (hw : Region.wanted o (yielded ops a.tmps) = true) (hr : ∀ w, (execOp a.eval o).run Try.prog w = .ok (.enter f args) w)
    (hc : ∀ W, Calls Try.prog f args W fun e W' => e = .returned V ∧ W.grownBy W' none)
    (hK : ∀ K' : Act → Cl → Prop, (∀ a C, wpMixX Try.prog X ops Q rest a C → K' a C) → ∀ W', Hid (w.grownBy W' none) → K' (a.put o.dst V) (cl w W')) : wpMixX Try.prog X ops Q ((i, false) :: rest) a (cl w W) := by
  refine mix_callX ho hw f args hr ?_
  rintro _ ⟨m, rfl⟩
  refine (hc (W.drewN m)).mono ?_
  rintro e W' ⟨rfl, hg⟩
  have hg' := grown_trans h (grown_trans (grown_drewN W m none) hg)
  exact .inl ⟨_, rfl, cl_behind hg' (hK (wpMixX Try.prog X ops Q rest) (fun _ _ h => h) W' (hid_mk hg'))⟩
/-- Reads that come first. -/
theorem reads_first {Q : Act → Cl → Prop} (hs : Region.noSelect ops = true) (l : List (Nat × Bool)) (fuel n : Nat) (hn : n = l.length + fuel) (listed listed' : Array Bool) {a : Act} {C : Cl} (hB : orderP .any ops l listed = some listed') (h : wpMixX Try.prog X ops (wpAnyMX Try.prog X .any ops Q fuel listed') l a C) : wpAnyMX Try.prog X .any ops Q n listed a C := by
  subst hn
  exact wpAnyMX_part hs fuel listed' l listed a C hB h
end
theorem upto_gr (i l oi ol : Int) (w : World) : Calls Try.prog 13 #[.int .i64 i, .int .i64 l, .int .i64 oi, .int .i64 ol] w fun e w' => e = .returned (.bool (upB i l oi ol)) ∧ w.grownBy w' none := (upto_any i l oi ol w).mono (by rintro e w' ⟨rfl, rfl⟩; exact ⟨rfl, grown_refl _ _⟩)
theorem rupto_gr (i l oi ol : Int) (w : World) : Calls Try.prog 14 #[.int .i64 i, .int .i64 l, .int .i64 oi, .int .i64 ol] w fun e w' => e = .returned (.bool (upB i l oi ol)) ∧ w.grownBy w' none := (rupto_any i l oi ol w).mono (by rintro e w' ⟨rfl, rfl⟩; exact ⟨rfl, grown_refl _ _⟩)
theorem me_gr (m : Meg) (w : World) : Calls Try.prog 10 #[m.v] w fun e w' => e = .returned m.v ∧ w.grownBy w' none := (me_any m w).mono (by rintro e w' ⟨rfl, o, p, rfl⟩; exact ⟨rfl, ga2 _ _ _⟩)
theorem ask_gr (m : Ask) (w : World) : Calls Try.prog 11 #[m.v] w fun e w' => e = .returned m.v ∧ w.grownBy w' none := (ask_any m w).mono (by rintro e w' ⟨rfl, o, p, rfl⟩; exact ⟨rfl, ga2 _ _ _⟩)
end Go.Proofs.Ytgplhgogjcgmeaa
