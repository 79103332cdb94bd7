/- The program's own message: the first region of Own, in whatever order it comes. -/
import Derived.Test.YtliefofdlpljaaaDoorOwnM
namespace Go.Proofs.YtliefofdlpljaaaDoor
open Go.RowKit Go.Maps
set_option linter.unusedVariables false
set_option linter.unusedSimpArgs false

def zeroM : Array Value := #[.int .i64 0, .int .i64 0, .int .i64 0, .int .i64 0, .int .i64 0, .int .i64 0, .int .i64 0, .int .i64 0, .bool false, .slice none 0 0, .slice none 0 0, .slice none 0 0]
/-- What is there so far: ints, bytes, a message's block. -/
structure RS (w0 W : World) (iv : Value) (il : List Int) (bv : Value) (bl : List UInt8) (pb : Option Nat) : Prop where
  i : OwnI W w0.heap.size iv il
  b : Own W w0.heap.size bv bl
  p : ∀ g, pb = some g → W.heap[g]? = some (.cells zeroM 27 (0, 0)) ∧ w0.heap.size ≤ g
  gr : w0.grownBy W none
theorem RS.kept {w0 W W' : World} {iv bv : Value} {il : List Int} {bl : List UInt8} {pb : Option Nat} (h : RS w0 W iv il bv bl pb) (hg : W.grownBy W' none) : RS w0 W' iv il bv bl pb :=
  ⟨owns_kept h.i hg (fun _ _ _ => by simp), h.b.kept hg (.inl rfl), fun g e => ⟨(hg.block g (Array.getElem?_eq_some_iff.1 (h.p g e).1).1 (by simp)).trans (h.p g e).1, (h.p g e).2⟩, grown_trans h.gr hg⟩

section
variable {X : List PanicEntry → List Deferred → World → Prop} {ops : Array Oper} {K : Act → Cl → Prop} {a : Act} {i : Nat} {o : Oper} {w0 w1 : World} {iv bv : Value} {il : List Int} {bl : List UInt8} {pb : Option Nat}
abbrev cl (w0 W : World) : Cl := at0 W (fun W => w0.grownBy W none)
theorem cl_behind {w0 W : World} {C : Cl} (hg : w0.grownBy W none) (hC : ∀ x, w0.grownBy x none → C.all x) (h : K a (cl w0 W)) : Behind C K a W :=
  ⟨cl w0 W, ⟨0, rfl⟩, shut_at0 (fun m => grown_trans hg (drawn _ _)), hC, h⟩
theorem rs_new_i (h : RS w0 w1 iv il bv bl pb) (ho : ops[i]? = some o) (hw : Region.wanted o (yielded ops a.tmps) = true) (hrun : ∀ W : World, (execOp a.eval o).run Tryd.prog W = .ok (.value (.slice (some ⟨W.heap.size, 0, none⟩) 0 0)) (W.alloc (.cells #[] 3)))
    (hc : ∀ K' : Act → Cl → Prop, (∀ a C, K a C → K' a C) → ∀ g W', Hid (RS w0 W' (.slice (some ⟨g, 0, none⟩) 0 0) [] bv bl pb) → K' (a.put o.dst (.slice (some ⟨g, 0, none⟩) 0 0)) (cl w0 W')) : mxOpX Tryd.prog X ops i K a (cl w0 w1) := by
  refine fork_do ho hw (fun W hW => ?_)
  obtain ⟨m, rfl⟩ := hW
  have hk := h.kept (drawn w1 m)
  have hk' := hk.kept (World.grownBy_alloc (w1.drewN m) (.cells #[] 3) none)
  refine ⟨_, _, hrun _, cl_behind hk'.gr (fun _ h => h) (hc K (fun _ _ h => h) _ _ (hid_mk ⟨?_, hk'.b, hk'.p, hk'.gr⟩))⟩
  exact World.ownsRow_made (e := 3) (size := 1) (base := w0.heap.size) (w1.drewN m) #[] 0 hk.gr.size (by unfold maxLen; omega) (by simp)
theorem rs_new_b (h : RS w0 w1 iv il bv bl pb) (ho : ops[i]? = some o) (hw : Region.wanted o (yielded ops a.tmps) = true) (hrun : ∀ W : World, (execOp a.eval o).run Tryd.prog W = .ok (.value (.slice (some ⟨W.heap.size, 0, none⟩) 0 0)) (W.alloc (.cells #[] 5)))
    (hc : ∀ K' : Act → Cl → Prop, (∀ a C, K a C → K' a C) → ∀ g W', Hid (RS w0 W' iv il (.slice (some ⟨g, 0, none⟩) 0 0) [] pb) → K' (a.put o.dst (.slice (some ⟨g, 0, none⟩) 0 0)) (cl w0 W')) : mxOpX Tryd.prog X ops i K a (cl w0 w1) := by
  refine fork_do ho hw (fun W hW => ?_)
  obtain ⟨m, rfl⟩ := hW
  have hk := h.kept (drawn w1 m)
  have hk' := hk.kept (World.grownBy_alloc (w1.drewN m) (.cells #[] 5) none)
  refine ⟨_, _, hrun _, cl_behind hk'.gr (fun _ h => h) (hc K (fun _ _ h => h) _ _ (hid_mk ⟨hk'.i, ?_, hk'.p, hk'.gr⟩))⟩
  exact (own_empty (w1.drewN m)).base hk.gr.size
theorem rs_new_p (h : RS w0 w1 iv il bv bl none) (ho : ops[i]? = some o) (hw : Region.wanted o (yielded ops a.tmps) = true) (hrun : ∀ W : World, (execOp a.eval o).run Tryd.prog W = .ok (.value (.pointer (some ⟨W.heap.size, 0, none⟩))) (W.alloc (.cells zeroM 27)))
    (hc : ∀ K' : Act → Cl → Prop, (∀ a C, K a C → K' a C) → ∀ g W', Hid (RS w0 W' iv il bv bl (some g)) → K' (a.put o.dst (.pointer (some ⟨g, 0, none⟩))) (cl w0 W')) : mxOpX Tryd.prog X ops i K a (cl w0 w1) := by
  refine fork_do ho hw (fun W hW => ?_)
  obtain ⟨m, rfl⟩ := hW
  have hk := h.kept (drawn w1 m)
  have hk' := hk.kept (World.grownBy_alloc (w1.drewN m) (.cells zeroM 27) none)
  refine ⟨_, _, hrun _, cl_behind hk'.gr (fun _ h => h) (hc K (fun _ _ h => h) _ _ (hid_mk ⟨hk'.i, hk'.b, fun g e => ?_, hk'.gr⟩))⟩
  cases e
  exact ⟨heap_alloc_new _ _, hk.gr.size⟩
theorem rs_app_i (h : RS w0 w1 iv [] bv bl pb) (l : List Int) (sv : Value) (hl : l.length ≤ 17592186044416) (hsv : IntsR w0 sv l) (ho : ops[i]? = some o) (hw : Region.wanted o (yielded ops a.tmps) = true) (s y : Operand) (hop : o.op = .call { callee := .builtin .append, args := #[s, y], argTypes := #[23, 23] }) (hs : a.eval s = iv) (hy : a.eval y = sv)
    (hc : ∀ K' : Act → Cl → Prop, (∀ a C, K a C → K' a C) → ∀ a' c' W', Hid (RS w0 W' (.slice a' l.length c') l bv bl pb) → K' (a.put o.dst (.slice a' l.length c')) (cl w0 W')) : mxOpX Tryd.prog X ops i K a (cl w0 w1) := by
  refine fork_do ho hw (fun W hW => ?_)
  obtain ⟨m, rfl⟩ := hW
  have hk := h.kept (drawn w1 m)
  obtain ⟨a', c', W', hrun, h1, h2, h3⟩ := run_append_ints w0 (w1.drewN m) s y hop hk.gr iv hs hk.i l sv hy (hsv.kept hk.gr) hl
  refine ⟨_, W', hrun, cl_behind h2 (fun _ h => h) (hc K (fun _ _ h => h) a' c' W' (hid_mk ⟨h1, owns_kept hk.b h3 (fun g cur hh => own_tag hk.i hh (by decide)), fun g e => ⟨?_, (hk.p g e).2⟩, h2⟩))⟩
  exact (h3.block g (Array.getElem?_eq_some_iff.1 (hk.p g e).1).1 (own_tag hk.i (hk.p g e).1 (by decide))).trans (hk.p g e).1
theorem rs_app_b (h : RS w0 w1 iv il bv [] pb) (l : List UInt8) (sv : Value) (hl : l.length ≤ 140737488355328) (hsv : Byt w0 sv l) (ho : ops[i]? = some o) (hw : Region.wanted o (yielded ops a.tmps) = true) (s y : Operand) (hop : o.op = .call { callee := .builtin .append, args := #[s, y], argTypes := #[24, 24] }) (hs : a.eval s = bv) (hy : a.eval y = sv)
    (hc : ∀ K' : Act → Cl → Prop, (∀ a C, K a C → K' a C) → ∀ a' c' W', Hid (RS w0 W' iv il (.slice a' l.length c') l pb) → K' (a.put o.dst (.slice a' l.length c')) (cl w0 W')) : mxOpX Tryd.prog X ops i K a (cl w0 w1) := by
  refine fork_do ho hw (fun W hW => ?_)
  obtain ⟨m, rfl⟩ := hW
  have hk := h.kept (drawn w1 m)
  obtain ⟨a', c', W', hrun, h1, h2, h3⟩ := run_append_byt w0 (w1.drewN m) s y hop hk.gr bv [] hs hk.b l sv hy (hsv.kept hk.gr) (by simpa using hl)
  simp only [List.length_nil, Nat.zero_add, List.nil_append] at hrun h1
  refine ⟨_, W', hrun, cl_behind h2 (fun _ h => h) (hc K (fun _ _ h => h) a' c' W' (hid_mk ⟨owns_kept hk.i h3 (fun g cur hh => own_tag hk.b hh (by decide)), h1, fun g e => ⟨?_, (hk.p g e).2⟩, h2⟩))⟩
  exact (h3.block g (Array.getElem?_eq_some_iff.1 (hk.p g e).1).1 (own_tag hk.b (hk.p g e).1 (by decide))).trans (hk.p g e).1
theorem fork_rd {C : Cl} (ho : ops[i]? = some o) (hw : Region.wanted o (yielded ops a.tmps) = true) (v : Value) (hv : ∀ W, C.all W → (execOp a.eval o).run Tryd.prog W = .ok (.value v) W) (h : ∀ K' : Act → Cl → Prop, (∀ a C, K a C → K' a C) → K' (a.put o.dst v) C) : mxOpX Tryd.prog X ops i K a C := by
  unfold mxOpX
  simp only [ho, hw, if_true]
  exact .inl ⟨v, fun W hC => by unfold readAt; rw [hv W hC]; exact ⟨rfl, rfl⟩, h K (fun _ _ h => h)⟩
end

end Go.Proofs.YtliefofdlpljaaaDoor
