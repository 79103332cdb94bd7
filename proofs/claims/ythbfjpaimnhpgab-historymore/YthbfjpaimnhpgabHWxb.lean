/- history: HistoryMore: steps of a region that makes two rows and appends the one to the other. -/
import Derived.Test.YthbfjpaimnhpgabHWxa
namespace Go.Proofs.Ythbfjpaimnhpgab
open Go.RowKit Go.Maps
set_option linter.unusedVariables false
set_option linter.unusedSimpArgs false
set_option maxRecDepth 100000
attribute [local go_sem] Oper.semAt_some
section
variable {X : List PanicEntry → List Deferred → World → Prop} {ops : Array Oper}
/-- What follows a world, whose earlier blocks stay. -/
def clE (w W : World) : Cl := at0 W (fun W' => w.grownBy W' none)
theorem clE_behind {w W W' : World} {K : Act → Cl → Prop} {a : Act} (hg : w.grownBy W' none) (h : K a (clE w W')) : Behind (clE w W) K a W' :=
  ⟨clE w W', ⟨0, rfl⟩, shut_at0 (fun m => grown_trans hg (grown_drewN _ m none)), fun _ h => h, h⟩
theorem OwnE.lower {w : World} {B B' : Nat} {v : Value} {L : List CE} (hB : B' ≤ B) (h : OwnE w B v L) : OwnE w B' v L := owns_low h hB
theorem OwnE.but {W W' : World} {B g : Nat} {v : Value} {L : List CE} (h : OwnE W B v L) (hg : W.grownBy W' (some g)) (hne : v.ownBlock ≠ some g) : OwnE W' B v L := by
  rcases h.2 with ⟨hv, h0⟩ | ⟨g', cap, cur, hv, r⟩
  · subst hv; exact ⟨h.1, .inl ⟨rfl, h0⟩⟩
  · exact ⟨h.1, .inr ⟨g', cap, cur, hv, r.1, by rw [hg.block g' (Array.getElem?_eq_some_iff.1 r.2.1).1 (fun e => hne (by rw [hv]; injection e with e; rw [e]; rfl))]; exact r.2.1, r.2.2⟩⟩
theorem f_empty {w W : World} {K : Act → Cl → Prop} {a : Act} {i : Nat} {o : Oper} (hgr : w.grownBy W none) (ho : ops[i]? = some o) (hw : Region.wanted o (yielded ops a.tmps) = true) (hrun : ∀ W : World, (execOp a.eval o).run Try.prog W = .ok (.value (.slice (some ⟨W.heap.size, 0, none⟩) 0 0)) (W.alloc (.cells #[] 27)))
    (hK : ∀ K' : Act → Cl → Prop, (∀ a C, K a C → K' a C) → ∀ q W', Hid (w.grownBy W' none ∧ W.grownBy W' none ∧ W.heap.size ≤ q ∧ OwnE W' w.heap.size (.slice (some ⟨q, 0, none⟩) 0 0) []) → K' (a.put o.dst (.slice (some ⟨q, 0, none⟩) 0 0)) (clE w W')) : mxOpX Try.prog X ops i K a (clE w W) := by
  refine fork_do ho hw ?_
  rintro _ ⟨m, rfl⟩
  have hg : W.grownBy ((W.drewN m).alloc (.cells #[] 27)) none := grown_trans (grown_drewN W m none) (World.grownBy_alloc _ _ none)
  exact ⟨_, _, hrun (W.drewN m), clE_behind (grown_trans hgr hg) (hK K (fun _ _ h => h) _ _ (hid_mk ⟨grown_trans hgr hg, hg, Nat.le_refl _, (ownE_empty (W.drewN m)).lower hgr.size⟩))⟩
theorem f_one {w W : World} {K : Act → Cl → Prop} {a : Act} {i : Nat} {o : Oper} (hgr : w.grownBy W none) (cs : Array Value) (ho : ops[i]? = some o) (hw : Region.wanted o (yielded ops a.tmps) = true) (hrun : ∀ W : World, (execOp a.eval o).run Try.prog W = .ok (.value (.slice (some ⟨W.heap.size, 0, none⟩) 1 1)) (W.alloc (.cells cs 27)))
    (hK : ∀ K' : Act → Cl → Prop, (∀ a C, K a C → K' a C) → ∀ q W', Hid (w.grownBy W' none ∧ W.grownBy W' none ∧ W.heap.size ≤ q ∧ Blk W' q cs 27) → K' (a.put o.dst (.slice (some ⟨q, 0, none⟩) 1 1)) (clE w W')) : mxOpX Try.prog X ops i K a (clE w W) := by
  refine fork_do ho hw ?_
  rintro _ ⟨m, rfl⟩
  have hg : W.grownBy ((W.drewN m).alloc (.cells cs 27)) none := grown_trans (grown_drewN W m none) (World.grownBy_alloc _ _ none)
  exact ⟨_, _, hrun (W.drewN m), clE_behind (grown_trans hgr hg) (hK K (fun _ _ h => h) _ _ (hid_mk ⟨grown_trans hgr hg, hg, Nat.le_refl _, heap_alloc_new _ _⟩))⟩
/-- append([]Call{}, v...). -/
theorem f_copy {w W : World} {K : Act → Cl → Prop} {a : Act} {i : Nat} {o : Oper} (hgr : w.grownBy W none) (g : Nat) (hown : OwnE W w.heap.size (.slice (some ⟨g, 0, none⟩) 0 0) []) (v : Value) (L : List CE) (h : CsR w v L) (hl : L.length ≤ 1099511627776) (ho : ops[i]? = some o) (hw : Region.wanted o (yielded ops a.tmps) = true)
    (s y : Operand) (hop : o.op = .call { callee := .builtin .append, args := #[s, y], argTypes := #[22, 22] }) (hs : a.eval s = .slice (some ⟨g, 0, none⟩) 0 0) (hy : a.eval y = v)
    (hK : ∀ K' : Act → Cl → Prop, (∀ a C, K a C → K' a C) → ∀ a' c' W', Hid (w.grownBy W' none ∧ W.grownBy W' (some g) ∧ OwnE W' w.heap.size (.slice a' L.length c') L) → K' (a.put o.dst (.slice a' L.length c')) (clE w W')) : mxOpX Try.prog X ops i K a (clE w W) := by
  refine fork_do ho hw ?_
  rintro _ ⟨m, rfl⟩
  have hgd := grown_drewN W m none
  obtain ⟨a', c', W', hrun, h1, h2⟩ := run_copyE (hown.kept hgd) (grown_trans hgr hgd).size (h.kept (grown_trans hgr hgd)) hl o.type
  have hlo := (own_low hown g rfl).1
  have hg2 : W.grownBy W' (some g) := grown_trans (grown_any hgd _) h2
  have hg3 : w.grownBy W' none := grown_new hgr hg2 hlo
  exact ⟨_, W', by simp [execOp, hop, resolve, invoke, builtin, hs, hy, hrun, Result.andThen], clE_behind hg3 (hK K (fun _ _ h => h) _ _ _ (hid_mk ⟨hg3, hg2, h1⟩))⟩
/-- append(row, call). -/
theorem f_app {w W : World} {K : Act → Cl → Prop} {a : Act} {i : Nat} {o : Oper} (hgr : w.grownBy W none) (v : Value) (L : List CE) (hown : OwnE W w.heap.size v L) (q : Nat) (x : CE) (hx : Blk W q (calC x).toArray 27) (hsl : IsSl x.vd ∧ IsSl x.vr) (hl : L.length + 1 ≤ 1099511627776) (ho : ops[i]? = some o) (hw : Region.wanted o (yielded ops a.tmps) = true)
    (s y : Operand) (hop : o.op = .call { callee := .builtin .append, args := #[s, y], argTypes := #[22, 22] }) (hs : a.eval s = v) (hy : a.eval y = .slice (some ⟨q, 0, none⟩) 1 1)
    (hK : ∀ K' : Act → Cl → Prop, (∀ a C, K a C → K' a C) → ∀ a' c' W', Hid (w.grownBy W' none ∧ OwnE W' w.heap.size (.slice a' (L.length + 1) c') (L ++ [x])) → K' (a.put o.dst (.slice a' (L.length + 1) c')) (clE w W')) : mxOpX Try.prog X ops i K a (clE w W) := by
  refine fork_do ho hw ?_
  rintro _ ⟨m, rfl⟩
  have hgd := grown_drewN W m none
  have hown2 := hown.kept hgd
  have hx2 := hx.kept hgd (by simp)
  obtain ⟨a', c', W', hrun, h1, h2⟩ := appE hown2 (ad := ⟨q, 0, none⟩) (m := 1) (c := 1) (L := [x]) rfl (fun j u hj => by
    rw [add_at, Nat.zero_add, hx2.cell]
    simpa [cals] using hj) (fun z hz => by rw [List.mem_singleton.1 hz]; exact hsl) hl (grown_trans hgr hgd).size o.type
  have hg3 : w.grownBy W' none := grown_row (grown_trans hgr hgd) hown2 h2
  exact ⟨_, W', by simp [execOp, hop, resolve, invoke, builtin, hs, hy, hrun, Result.andThen], clE_behind hg3 (hK K (fun _ _ h => h) _ _ _ (hid_mk ⟨hg3, h1⟩))⟩
theorem f_no {K : Act → Cl → Prop} {a : Act} {i : Nat} {C : Cl} {o : Oper} (ho : ops[i]? = some o) (hw : Region.wanted o (yielded ops a.tmps) = false) (h : K (a.put o.dst undef) C) : mxOpX Try.prog X ops i K a C := by
  unfold mxOpX
  simp only [ho, hw]
  exact h
theorem f_call {w W : World} {K : Act → Cl → Prop} {a : Act} {i : Nat} {o : Oper} (hgr : w.grownBy W none) (f : FuncId) (args : Array Value) (R : Value → World → World → Prop) (ho : ops[i]? = some o) (hw : Region.wanted o (yielded ops a.tmps) = true) (hr : ∀ w, (execOp a.eval o).run Try.prog w = .ok (.enter f args) w)
    (hc : ∀ W1, W.grownBy W1 none → Calls Try.prog f args W1 fun e W' => ∃ v, e = .returned v ∧ R v W1 W' ∧ W1.grownBy W' none)
    (hK : ∀ K' : Act → Cl → Prop, (∀ a C, K a C → K' a C) → ∀ v W1 W', Hid (w.grownBy W' none ∧ W.grownBy W1 none ∧ W1.grownBy W' none ∧ R v W1 W') → K' (a.put o.dst v) (clE w W')) : mxOpX Try.prog X ops i K a (clE w W) := by
  unfold mxOpX
  simp only [ho, hw, if_true]
  refine .inr ?_
  rintro _ ⟨m, rfl⟩
  rw [hr]
  refine (hc (W.drewN m) (grown_drewN W m none)).mono ?_
  rintro e W' ⟨v, rfl, hR, hg⟩
  have hg' := grown_trans (grown_drewN W m none) hg
  exact .inl ⟨v, rfl, clE_behind (grown_trans hgr hg') (hK K (fun _ _ h => h) v _ W' (hid_mk ⟨grown_trans hgr hg', grown_drewN W m none, hg, hR⟩))⟩
theorem reads_first {Q : Act → Cl → Prop} (hs : Region.noSelect ops = true) (l : List (Nat × Bool)) (fuel n : Nat) (hn : n = l.length + fuel) (listed listed' : Array Bool) {a : Act} {C : Cl} (hB : orderP .any ops l listed = some listed') (h : wpMixX Try.prog X ops (wpAnyMX Try.prog X .any ops Q fuel listed') l a C) : wpAnyMX Try.prog X .any ops Q n listed a C := by
  subst hn
  exact wpAnyMX_part hs fuel listed' l listed a C hB h
end
end Go.Proofs.Ythbfjpaimnhpgab
