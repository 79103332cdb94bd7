/- Steps of a region in which a call is made beside a box. -/
import Derived.Test.YtpncbehabfkhkaaNaMx
namespace Go.Proofs.Ytpncbehabfkhkaa.W
open Go.RowKit Go.Maps Go.WideMaps Go.WideElems
set_option linter.unusedVariables false
set_option linter.unusedSimpArgs false
set_option maxRecDepth 100000

section
variable {X : List PanicEntry → List Deferred → World → Prop} {ops : Array Oper}

theorem fork_call {K : Act → Cl → Prop} {a : Act} {C : Cl} {i : Nat} {o : Oper} (ho : ops[i]? = some o) (hw : Region.wanted o (yielded ops a.tmps) = true) (f : FuncId) (args : Array Value) (hr : ∀ w, (execOp a.eval o).run Try.prog w = .ok (.enter f args) w)
    (h : ∀ w, C.now w → Calls Try.prog f args w (fun e w'' => ∃ v, e = .returned v ∧ Behind C K (a.put o.dst v) w'')) : mxOpX Try.prog X ops i K a C := by
  unfold mxOpX
  simp only [ho, hw, if_true]
  exact .inr fun w hC => by rw [hr w]; exact (h w hC).mono fun e w'' hq => .inl hq
def cl (w W : World) : Cl := at0 W (fun W' => w.grownBy W' none)
theorem cl_behind {w W W' : World} {K : Act → Cl → Prop} {a : Act} (hg : w.grownBy W' none) (h : K a (cl w W')) : Behind (cl w W) K a W' :=
  ⟨cl w W', ⟨0, rfl⟩, shut_at0 (fun m => grown_trans hg (grown_drewN _ m none)), fun _ h => h, h⟩
/-- The region's state: what was made since W0; the box, if it was made. -/
structure XS (W0 W : World) (bx : Option Nat) : Prop where
  gr : W0.grownBy W none
  box : ∀ q, bx = some q → Blk W q #[.int .i64 0, .int .i64 0, .int .i64 0] 52 ∧ W0.heap.size ≤ q
theorem XS.kept {W0 W W' : World} {bx : Option Nat} (h : XS W0 W bx) (hg : W.grownBy W' none) : XS W0 W' bx := ⟨grown_trans h.gr hg, fun q e => ⟨(h.box q e).1.kept hg (by simp), (h.box q e).2⟩⟩
/-- The box is made. -/
theorem xs_box {w W0 W : World} {K : Act → Cl → Prop} {a : Act} {i : Nat} {o : Oper} (hg0 : w.grownBy W0 none) (h : XS W0 W none) (ho : ops[i]? = some o) (hw : Region.wanted o (yielded ops a.tmps) = true) (hrun : ∀ W : World, (execOp a.eval o).run Try.prog W = .ok (.value (.pointer (some ⟨W.heap.size, 0, none⟩))) (W.alloc (.cells #[.int .i64 0, .int .i64 0, .int .i64 0] 52)))
    (hK : ∀ K' : Act → Cl → Prop, (∀ a C, K a C → K' a C) → ∀ q W', Hid (XS W0 W' (some q) ∧ W.grownBy W' none) → K' (a.put o.dst (.pointer (some ⟨q, 0, none⟩))) (cl w W')) : mxOpX Try.prog X ops i K a (cl w W) := by
  refine fork_do ho hw ?_
  rintro _ ⟨m, rfl⟩
  have hg : W.grownBy ((W.drewN m).alloc (.cells #[.int .i64 0, .int .i64 0, .int .i64 0] 52)) none := grown_trans (grown_drewN W m none) (World.grownBy_alloc _ _ none)
  refine ⟨_, _, hrun (W.drewN m), cl_behind (grown_trans hg0 (grown_trans h.gr hg)) (hK K (fun _ _ h => h) _ _ (hid_mk ⟨⟨grown_trans h.gr hg, fun q e => ?_⟩, hg⟩))⟩
  cases e
  exact ⟨heap_alloc_new _ _, h.gr.size⟩
/-- A new slice of bytes. -/
theorem xs_new {w W0 W : World} {bx : Option Nat} {K : Act → Cl → Prop} {a : Act} {i : Nat} {o : Oper} (hg0 : w.grownBy W0 none) (h : XS W0 W bx) (ho : ops[i]? = some o) (hw : Region.wanted o (yielded ops a.tmps) = true) (hrun : ∀ W : World, (execOp a.eval o).run Try.prog W = .ok (.value (.slice (some ⟨W.heap.size, 0, none⟩) 0 0)) (W.alloc (.cells #[] 5)))
    (hK : ∀ K' : Act → Cl → Prop, (∀ a C, K a C → K' a C) → ∀ g W', Hid (XS W0 W' bx ∧ Own W' W0.heap.size (.slice (some ⟨g, 0, none⟩) 0 0) []) → K' (a.put o.dst (.slice (some ⟨g, 0, none⟩) 0 0)) (cl w W')) : mxOpX Try.prog X ops i K a (cl w W) := by
  refine fork_do ho hw ?_
  rintro _ ⟨m, rfl⟩
  have hg : W.grownBy ((W.drewN m).alloc (.cells #[] 5)) none := grown_trans (grown_drewN W m none) (World.grownBy_alloc _ _ none)
  exact ⟨_, _, hrun (W.drewN m), cl_behind (grown_trans hg0 (grown_trans h.gr hg)) (hK K (fun _ _ h => h) _ _ (hid_mk ⟨h.kept hg, (own_empty (W.drewN m)).base h.gr.size⟩))⟩
/-- append(s, x...), of bytes. -/
theorem xs_app {w W0 W : World} {bx : Option Nat} {K : Act → Cl → Prop} {a : Act} {i : Nat} {o : Oper} (hg0 : w.grownBy W0 none) (h : XS W0 W bx) (g : Nat) (hown : Own W W0.heap.size (.slice (some ⟨g, 0, none⟩) 0 0) []) (l : List UInt8) (xa : Option Addr) (xc : Nat) (hx : Byt w (.slice xa l.length xc) l) (hl : l.length ≤ 140737488355328) (ho : ops[i]? = some o) (hw : Region.wanted o (yielded ops a.tmps) = true) (s y : Operand) (hop : o.op = .call { callee := .builtin .append, args := #[s, y], argTypes := #[22, 22] })
    (hs : a.eval s = .slice (some ⟨g, 0, none⟩) 0 0) (hy : a.eval y = .slice xa l.length xc)
    (hK : ∀ K' : Act → Cl → Prop, (∀ a C, K a C → K' a C) → ∀ a' c' W', Hid (XS W0 W' bx ∧ Own W' W0.heap.size (.slice a' l.length c') l) → K' (a.put o.dst (.slice a' l.length c')) (cl w W')) : mxOpX Try.prog X ops i K a (cl w W) := by
  refine fork_do ho hw ?_
  rintro _ ⟨m, rfl⟩
  have hgm := grown_drewN W m none
  obtain ⟨a', cap', w', hrun, h1, h2, h3⟩ := run_append_byt W0 (W.drewN m) s y hop (grown_trans h.gr hgm) _ [] hs (owns_kept hown hgm (fun _ _ _ => by simp)) l _ hy (hx.kept (grown_trans hg0 (grown_trans h.gr hgm))) (by simpa using hl)
  rw [List.length_nil, Nat.zero_add, List.nil_append] at h1
  rw [List.length_nil, Nat.zero_add] at hrun
  refine ⟨_, _, hrun, cl_behind (grown_trans hg0 h2) (hK K (fun _ _ h => h) _ _ _ (hid_mk ⟨⟨h2, fun q e => ⟨?_, (h.box q e).2⟩⟩, h1⟩))⟩
  have hb := (h.box q e).1.kept hgm (by simp)
  have hb5 : ∃ c, (W.drewN m).heap[g]? = some (.cells c 5 (0, 0)) := own_blk5 (owns_kept hown hgm (fun _ _ _ => by simp)) g rfl
  obtain ⟨c, hc⟩ := hb5
  exact hb.kept h3 (ne_tag hb hc (by decide))
/-- The call. -/
theorem xs_call {w W0 W : World} {bx : Option Nat} {K : Act → Cl → Prop} {a : Act} {i : Nat} {o : Oper} (h : XS W0 W bx) (f : FuncId) (args : Array Value) (V : Value) (J : World → Prop) (ho : ops[i]? = some o) (hw : Region.wanted o (yielded ops a.tmps) = true) (hr : ∀ w, (execOp a.eval o).run Try.prog w = .ok (.enter f args) w)
    (hc : ∀ m, Calls Try.prog f args (W.drewN m) fun e W' => e = .returned V ∧ J W' ∧ w.grownBy W' none ∧ ∀ q cs, Blk W q cs 52 → W0.heap.size ≤ q → Blk W' q cs 52)
    (hK : ∀ K' : Act → Cl → Prop, (∀ a C, K a C → K' a C) → ∀ W', Hid (J W' ∧ w.grownBy W' none ∧ ∀ q, bx = some q → Blk W' q #[.int .i64 0, .int .i64 0, .int .i64 0] 52 ∧ W0.heap.size ≤ q) → K' (a.put o.dst V) (cl w W')) : mxOpX Try.prog X ops i K a (cl w W) := by
  refine fork_call ho hw f args hr ?_
  rintro _ ⟨m, rfl⟩
  refine (hc m).mono ?_
  rintro e W' ⟨rfl, hJ, hg, hb⟩
  exact ⟨_, rfl, cl_behind hg (hK K (fun _ _ h => h) W' (hid_mk ⟨hJ, hg, fun q e => ⟨hb q _ (h.box q e).1 (h.box q e).2, (h.box q e).2⟩⟩))⟩
/-- The box, behind the call. -/
theorem ys_box {w W : World} {K : Act → Cl → Prop} {a : Act} {i : Nat} {o : Oper} (J : World → Prop) (hJ : J W) (hkept : ∀ W', W.grownBy W' none → J W') (hg0 : w.grownBy W none) (ho : ops[i]? = some o) (hw : Region.wanted o (yielded ops a.tmps) = true) (hrun : ∀ W : World, (execOp a.eval o).run Try.prog W = .ok (.value (.pointer (some ⟨W.heap.size, 0, none⟩))) (W.alloc (.cells #[.int .i64 0, .int .i64 0, .int .i64 0] 52)))
    (hK : ∀ K' : Act → Cl → Prop, (∀ a C, K a C → K' a C) → ∀ q W', Hid (J W' ∧ w.grownBy W' none ∧ Blk W' q #[.int .i64 0, .int .i64 0, .int .i64 0] 52 ∧ W.heap.size ≤ q) → K' (a.put o.dst (.pointer (some ⟨q, 0, none⟩))) (cl w W')) : mxOpX Try.prog X ops i K a (cl w W) := by
  refine fork_do ho hw ?_
  rintro _ ⟨m, rfl⟩
  have hg : W.grownBy ((W.drewN m).alloc (.cells #[.int .i64 0, .int .i64 0, .int .i64 0] 52)) none := grown_trans (grown_drewN W m none) (World.grownBy_alloc _ _ none)
  exact ⟨_, _, hrun (W.drewN m), cl_behind (grown_trans hg0 hg) (hK K (fun _ _ h => h) _ _ (hid_mk ⟨hkept _ hg, grown_trans hg0 hg, heap_alloc_new _ _, Nat.le_refl _⟩))⟩
/-- The result is stored in the box. -/
theorem ys_store {w W : World} {K : Act → Cl → Prop} {a : Act} {i : Nat} {o : Oper} (q : Nat) (u0 u1 u2 : Value) (J : World → Prop) (hkept : ∀ W', W.grownBy W' (some q) → J W') (hb : Blk W q #[.int .i64 0, .int .i64 0, .int .i64 0] 52) (hg0 : w.grownBy W none) (hq : w.heap.size ≤ q) (ho : ops[i]? = some o) (hw : Region.wanted o (yielded ops a.tmps) = true)
    (hrun : ∀ W : World, Blk W q #[.int .i64 0, .int .i64 0, .int .i64 0] 52 → (execOp a.eval o).run Try.prog W = .ok .skip (((W.setCell ⟨q, 0, none⟩ u0).setCell ⟨q, 1, none⟩ u1).setCell ⟨q, 2, none⟩ u2) ∨ ∃ v, (execOp a.eval o).run Try.prog W = .ok (.value v) (((W.setCell ⟨q, 0, none⟩ u0).setCell ⟨q, 1, none⟩ u1).setCell ⟨q, 2, none⟩ u2)) (hd : o.dst = none)
    (hK : ∀ K' : Act → Cl → Prop, (∀ a C, K a C → K' a C) → ∀ W', Hid (J W' ∧ w.grownBy W' none ∧ Blk W' q #[u0, u1, u2] 52) → K' a (cl w W')) : mxOpX Try.prog X ops i K a (cl w W) := by
  unfold mxOpX
  simp only [ho, hw, if_true]
  refine .inr ?_
  rintro _ ⟨m, rfl⟩
  have hbm : Blk (W.drewN m) q #[.int .i64 0, .int .i64 0, .int .i64 0] 52 := hb
  have hg : W.grownBy ((((W.drewN m).setCell ⟨q, 0, none⟩ u0).setCell ⟨q, 1, none⟩ u1).setCell ⟨q, 2, none⟩ u2) (some q) := grown_trans (grown_drewN W m _) (grown_laid3 _ _ _ _ _)
  have key := cl_behind (W := W) (a := a) (grown_new hg0 hg hq) (hK K (fun _ _ h => h) _ (hid_mk ⟨hkept _ hg, grown_new hg0 hg hq, blk_laid3 hbm _ _ _⟩))
  have hput : ∀ v, a.put o.dst v = a := fun v => by rw [hd]; rfl
  rcases hrun _ hbm with hr | ⟨v, hr⟩
  · rw [hr]
    show Behind (cl w W) K (a.put o.dst undef) _
    rw [hput]
    exact key
  · rw [hr]
    show Behind (cl w W) K (a.put o.dst v) _
    rw [hput]
    exact key
/-- Reads that come first. -/
theorem reads_first {Q : Act → Cl → Prop} (hs : Region.noSelect ops = true) (l : List (Nat × Bool)) (fuel n : Nat) (hn : n = l.length + fuel) (listed listed' : Array Bool) {a : Act} {C : Cl} (hB : orderP .any ops l listed = some listed') (h : wpMixX Try.prog X ops (wpAnyMX Try.prog X .any ops Q fuel listed') l a C) : wpAnyMX Try.prog X .any ops Q n listed a C := by
  subst hn
  exact wpAnyMX_part hs fuel listed' l listed a C hB h
end
end Go.Proofs.Ytpncbehabfkhkaa.W
