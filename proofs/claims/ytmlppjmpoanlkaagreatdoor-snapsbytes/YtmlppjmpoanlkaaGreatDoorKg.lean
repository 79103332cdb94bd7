/- snaps: Own. -/
import Derived.Test.YtmlppjmpoanlkaaGreatDoorSMixX
namespace Go.Proofs.YtmlppjmpoanlkaaGreatDoor.W
open Go.RowKit Go.Maps Go.Shelf
set_option linter.unusedVariables false
set_option linter.unusedSimpArgs false
set_option maxRecDepth 100000

/-- append([]int{}, l...), as an operation. -/
theorem run_append_ints (w0 W : World) {o : Oper} {a : Act} (s y : Operand) (ho : o.op = .call { callee := .builtin .append, args := #[s, y], argTypes := #[22, 22] }) (hg0 : w0.grownBy W none)
    (v : Value) (hs : a.eval s = v) (hown : OwnI W w0.heap.size v []) (l : List Int) (sv : Value) (hy : a.eval y = sv) (h : IntsR W sv l) (hl : l.length ≤ 17592186044416) :
    ∃ a' c' W', (execOp a.eval o).run Tryz.prog W = .ok (.value (.slice a' l.length c')) W' ∧ OwnI W' w0.heap.size (.slice a' l.length c') l ∧ w0.grownBy W' none ∧ W.grownBy W' v.ownBlock := by
  obtain ⟨i0, hi, hz0, hz1, hz2⟩ := info_parts info3
  have hone : ∀ u ∈ i64s l, u.oneCell' = true := fun u hu => by
    obtain ⟨x, _, rfl⟩ := List.mem_map.1 hu; rfl
  have key : ∀ (ad : Addr) (n c : Nat), sv = .slice (some ad) n c → l.length = n → (∀ j u, (i64s l)[j]? = some u → W.cell? (ad.add j) = some u) →
      ∃ a' c' W', (execOp a.eval o).run Tryz.prog W = .ok (.value (.slice a' l.length c')) W' ∧ OwnI W' w0.heap.size (.slice a' l.length c') l ∧ w0.grownBy W' none ∧ W.grownBy W' v.ownBlock := by
    intro ad n c e hn hcl
    subst hn
    have hown' : W.ownsRow w0.heap.size 3 1 v 0 [] := hown
    obtain ⟨v', w', hrun, r1, r2, _, _⟩ := run_append_own_at (P := Tryz.prog) W w0.heap.size 22 o.type 3 i0 (.int .i64 0) 1 8 Tryz.underlying22 hi hz0 hz1 hz2 rfl (by decide) v 0 [] hown' ad l.length c (i64s l) (by simp [i64s]) hcl hone (by unfold maxLen; omega) (by omega) hg0.size
    simp only [Nat.zero_add, List.nil_append] at r1
    obtain ⟨a', c', rfl⟩ := row_shape r1
    refine ⟨a', c', w', ?_, r1, grown_row hg0 hown' r2, r2⟩
    rw [e] at hy
    simp [execOp, ho, resolve, invoke, builtin, hs, hy, hrun, Result.andThen]
  rcases h with ⟨rfl, a', cap', e, hn⟩ | ⟨b, off, cap', e, _, hcl⟩
  · cases a' with
    | none =>
      obtain rfl := hn rfl
      have hown' : W.ownsRow w0.heap.size 3 1 v 0 [] := hown
      have hrun := run_append_owned_none (P := Tryz.prog) W w0.heap.size 22 o.type 3 i0 1 Tryz.underlying22 hi v 0 [] hown'
      obtain ⟨a1, c1, rfl⟩ := row_shape hown'
      refine ⟨a1, c1, W, ?_, hown, hg0, grown_refl _ _⟩
      rw [e] at hy
      simp [execOp, ho, resolve, invoke, builtin, hs, hy, hrun, Result.andThen]
    | some ad => exact key ad 0 cap' e rfl (fun j u hj => by simp [i64s] at hj)
  · refine key ⟨b, off, none⟩ l.length cap' e rfl (fun j u hj => ?_)
    simp only [i64s, List.getElem?_map, Option.map_eq_some_iff] at hj
    obtain ⟨x, hx, rfl⟩ := hj
    rw [← hcl j x hx, addr_add]

/-- What is there so far: ints, bytes. -/
structure RS (w0 W : World) (iv : Value) (il : List Int) (bv : Value) (bl : List UInt8) (g0 : Nat) : Prop where
  p : W.heap[g0]? = some (.cells #[.int .i64 0, .int .i64 0, .slice none 0 0, .slice none 0 0] 27 (0, 0)) ∧ w0.heap.size ≤ g0
  i : OwnI W w0.heap.size iv il
  b : Own W w0.heap.size bv bl
  gr : w0.grownBy W none
theorem RS.kept {w0 W W' : World} {iv bv : Value} {il : List Int} {bl : List UInt8} {g0 : Nat} (h : RS w0 W iv il bv bl g0) (hg : W.grownBy W' none) : RS w0 W' iv il bv bl g0 :=
  ⟨⟨(hg.block g0 (Array.getElem?_eq_some_iff.1 h.p.1).1 (by simp)).trans h.p.1, h.p.2⟩, owns_kept h.i hg (fun _ _ _ => by simp), h.b.kept hg (.inl rfl), grown_trans h.gr hg⟩

section
variable {X : List PanicEntry → List Deferred → World → Prop} {ops : Array Oper} {K : Act → Cl → Prop} {a : Act} {i : Nat} {o : Oper} {w0 w1 : World} {iv bv : Value} {il : List Int} {bl : List UInt8} {g0 : Nat}
abbrev cl (w0 W : World) : Cl := at0 W (fun W => w0.grownBy W none)
theorem cl_behind {w0 W : World} {C : Cl} (hg : w0.grownBy W none) (hC : ∀ x, w0.grownBy x none → C.all x) (h : K a (cl w0 W)) : Behind C K a W :=
  ⟨cl w0 W, ⟨0, rfl⟩, shut_at0 (fun m => grown_trans hg (grown_drewN _ _ none)), hC, h⟩
theorem rs_new_i (h : RS w0 w1 iv il bv bl g0) (ho : ops[i]? = some o) (hw : Region.wanted o (yielded ops a.tmps) = true) (hrun : ∀ W : World, (execOp a.eval o).run Tryz.prog W = .ok (.value (.slice (some ⟨W.heap.size, 0, none⟩) 0 0)) (W.alloc (.cells #[] 3)))
    (hc : ∀ K' : Act → Cl → Prop, (∀ a C, K a C → K' a C) → ∀ g W', Hid (RS w0 W' (.slice (some ⟨g, 0, none⟩) 0 0) [] bv bl g0) → K' (a.put o.dst (.slice (some ⟨g, 0, none⟩) 0 0)) (cl w0 W')) : mxOpX Tryz.prog X ops i K a (cl w0 w1) := by
  refine fork_do ho hw (fun W hW => ?_)
  obtain ⟨m, rfl⟩ := hW
  have hk := h.kept (grown_drewN w1 m none)
  have hk' := hk.kept (World.grownBy_alloc (w1.drewN m) (.cells #[] 3) none)
  refine ⟨_, _, hrun _, cl_behind hk'.gr (fun _ h => h) (hc K (fun _ _ h => h) _ _ (hid_mk ⟨hk'.p, ?_, hk'.b, hk'.gr⟩))⟩
  exact World.ownsRow_made (e := 3) (size := 1) (base := w0.heap.size) (w1.drewN m) #[] 0 hk.gr.size (by unfold maxLen; omega) (by simp)
theorem rs_new_b (h : RS w0 w1 iv il bv bl g0) (ho : ops[i]? = some o) (hw : Region.wanted o (yielded ops a.tmps) = true) (hrun : ∀ W : World, (execOp a.eval o).run Tryz.prog W = .ok (.value (.slice (some ⟨W.heap.size, 0, none⟩) 0 0)) (W.alloc (.cells #[] 5)))
    (hc : ∀ K' : Act → Cl → Prop, (∀ a C, K a C → K' a C) → ∀ g W', Hid (RS w0 W' iv il (.slice (some ⟨g, 0, none⟩) 0 0) [] g0) → K' (a.put o.dst (.slice (some ⟨g, 0, none⟩) 0 0)) (cl w0 W')) : mxOpX Tryz.prog X ops i K a (cl w0 w1) := by
  refine fork_do ho hw (fun W hW => ?_)
  obtain ⟨m, rfl⟩ := hW
  have hk := h.kept (grown_drewN w1 m none)
  have hk' := hk.kept (World.grownBy_alloc (w1.drewN m) (.cells #[] 5) none)
  refine ⟨_, _, hrun _, cl_behind hk'.gr (fun _ h => h) (hc K (fun _ _ h => h) _ _ (hid_mk ⟨hk'.p, hk'.i, ?_, hk'.gr⟩))⟩
  exact (own_empty (w1.drewN m)).base hk.gr.size
theorem rs_app_i (h : RS w0 w1 iv [] bv bl g0) (l : List Int) (sv : Value) (hl : l.length ≤ 17592186044416) (hsv : IntsR w0 sv l) (ho : ops[i]? = some o) (hw : Region.wanted o (yielded ops a.tmps) = true) (s y : Operand) (hop : o.op = .call { callee := .builtin .append, args := #[s, y], argTypes := #[22, 22] }) (hs : a.eval s = iv) (hy : a.eval y = sv)
    (hc : ∀ K' : Act → Cl → Prop, (∀ a C, K a C → K' a C) → ∀ a' c' W', Hid (RS w0 W' (.slice a' l.length c') l bv bl g0) → K' (a.put o.dst (.slice a' l.length c')) (cl w0 W')) : mxOpX Tryz.prog X ops i K a (cl w0 w1) := by
  refine fork_do ho hw (fun W hW => ?_)
  obtain ⟨m, rfl⟩ := hW
  have hk := h.kept (grown_drewN w1 m none)
  obtain ⟨a', c', W', hrun, h1, h2, h3⟩ := run_append_ints w0 (w1.drewN m) s y hop hk.gr iv hs hk.i l sv hy (hsv.kept hk.gr) hl
  exact ⟨_, W', hrun, cl_behind h2 (fun _ h => h) (hc K (fun _ _ h => h) a' c' W' (hid_mk ⟨⟨(h3.block g0 (Array.getElem?_eq_some_iff.1 hk.p.1).1 (own_tag hk.i hk.p.1 (by decide))).trans hk.p.1, hk.p.2⟩, h1, owns_kept hk.b h3 (fun g cur hh => own_tag hk.i hh (by decide)), h2⟩))⟩
theorem rs_app_b (h : RS w0 w1 iv il bv [] g0) (l : List UInt8) (sv : Value) (hl : l.length ≤ 140737488355328) (hsv : Byt w0 sv l) (ho : ops[i]? = some o) (hw : Region.wanted o (yielded ops a.tmps) = true) (s y : Operand) (hop : o.op = .call { callee := .builtin .append, args := #[s, y], argTypes := #[23, 23] }) (hs : a.eval s = bv) (hy : a.eval y = sv)
    (hc : ∀ K' : Act → Cl → Prop, (∀ a C, K a C → K' a C) → ∀ a' c' W', Hid (RS w0 W' iv il (.slice a' l.length c') l g0) → K' (a.put o.dst (.slice a' l.length c')) (cl w0 W')) : mxOpX Tryz.prog X ops i K a (cl w0 w1) := by
  refine fork_do ho hw (fun W hW => ?_)
  obtain ⟨m, rfl⟩ := hW
  have hk := h.kept (grown_drewN w1 m none)
  obtain ⟨a', c', W', hrun, h1, h2, h3⟩ := run_append_byt w0 (w1.drewN m) s y hop hk.gr bv [] hs hk.b l sv hy (hsv.kept hk.gr) (by simpa using hl)
  simp only [List.length_nil, Nat.zero_add, List.nil_append] at hrun h1
  exact ⟨_, W', hrun, cl_behind h2 (fun _ h => h) (hc K (fun _ _ h => h) a' c' W' (hid_mk ⟨⟨(h3.block g0 (Array.getElem?_eq_some_iff.1 hk.p.1).1 (own_tag hk.b hk.p.1 (by decide))).trans hk.p.1, hk.p.2⟩, owns_kept hk.i h3 (fun g cur hh => own_tag hk.b hh (by decide)), h1, h2⟩))⟩
theorem fork_rd {C : Cl} (ho : ops[i]? = some o) (hw : Region.wanted o (yielded ops a.tmps) = true) (v : Value) (hv : ∀ W, C.all W → (execOp a.eval o).run Tryz.prog W = .ok (.value v) W) (h : ∀ K' : Act → Cl → Prop, (∀ a C, K a C → K' a C) → K' (a.put o.dst v) C) : mxOpX Tryz.prog X ops i K a C := by
  unfold mxOpX
  simp only [ho, hw, if_true]
  exact .inl ⟨v, fun W hC => by unfold readAt; rw [hv W hC]; exact ⟨rfl, rfl⟩, h K (fun _ _ h => h)⟩
/-- The store into the box of what is answered. -/
theorem rs_store (x : Snap) {a1 a2 : Option Addr} {c1 c2 : Nat} (h : RS w0 w1 (.slice a1 x.s.length c1) x.s (.slice a2 x.d.length c2) x.d g0) (ho : ops[i]? = some o) (hw : Region.wanted o (yielded ops a.tmps) = true)
    (s y : Operand) (hop : o.op = .store 27 s y) (hs : a.eval s = .pointer (some ⟨g0, 0, none⟩)) (hy : a.eval y = .agg #[.int .i64 x.i, .int .i64 x.t, .slice a1 x.s.length c1, .slice a2 x.d.length c2])
    (hc : ∀ K' : Act → Cl → Prop, (∀ a C, K a C → K' a C) → ∀ W', Hid (SB W' g0 x.i x.t (.slice a1 x.s.length c1) (.slice a2 x.d.length c2) ∧ OwnI W' w0.heap.size (.slice a1 x.s.length c1) x.s ∧ Own W' w0.heap.size (.slice a2 x.d.length c2) x.d ∧ w0.grownBy W' none) → K' (a.put o.dst undef) (cl w0 W')) : mxOpX Tryz.prog X ops i K a (cl w0 w1) := by
  unfold mxOpX
  simp only [ho, hw, if_true]
  refine .inr fun W hW => ?_
  obtain ⟨n, rfl⟩ := hW
  have hk := h.kept (grown_drewN w1 n none)
  have hb : SB (w1.drewN n) g0 0 0 (.slice none 0 0) (.slice none 0 0) := hk.p.1
  obtain ⟨h0, h1, h2, h3, hz⟩ := hb.all
  have hg : (w1.drewN n).grownBy (((((w1.drewN n).setCell ⟨g0, 0, none⟩ (.int .i64 x.i)).setCell ⟨g0, 1, none⟩ (.int .i64 x.t)).setCell ⟨g0, 2, none⟩ (.slice a1 x.s.length c1)).setCell ⟨g0, 3, none⟩ (.slice a2 x.d.length c2)) (some g0) :=
    grown_trans (grown_setCell _ _ _ _) (grown_trans (grown_setCell _ _ _ _) (grown_trans (grown_setCell _ _ _ _) (grown_setCell _ _ _ _)))
  have hrun : (execOp a.eval o).run Tryz.prog (w1.drewN n) = .ok .skip (((((w1.drewN n).setCell ⟨g0, 0, none⟩ (.int .i64 x.i)).setCell ⟨g0, 1, none⟩ (.int .i64 x.t)).setCell ⟨g0, 2, none⟩ (.slice a1 x.s.length c1)).setCell ⟨g0, 3, none⟩ (.slice a2 x.d.length c2)) := by
    simp only [execOp, hop, hs, hy]
    simp [go_sem, h0, h1, h2, h3, hz]
  rw [hrun]
  have hgr := grown_new hk.gr hg hk.p.2
  exact cl_behind hgr (fun _ h => h) (hc K (fun _ _ h => h) _ (hid_mk ⟨hb.laid _ _ _ _, owns_kept hk.i hg (fun _ _ hh => ne_tag hh hk.p.1 (by decide)), owns_kept hk.b hg (fun _ _ hh => ne_tag hh hk.p.1 (by decide)), hgr⟩))
end

set_option maxHeartbeats 4000000 in
theorem own_any (x : Snap) (sv dv : Value) (w : World) (h : SnapAt w sv dv x) (hns : x.s.length ≤ 17592186044416) (hnd : x.d.length ≤ 140737488355328) : Calls Tryz.prog 8 #[snapV x sv dv] w fun e w' => ∃ sv' dv', e = .returned (snapV x sv' dv') ∧ SnapAt w' sv' dv' x ∧ w.grownBy w' none := by
  obtain ⟨sa, sc, rfl⟩ := h.s.len
  obtain ⟨da, dc, rfl⟩ := h.d.len
  have HS := hid_mk h
  clear h
  have HF : Hid (V.Blk (w.alloc (.cells #[.int .i64 x.i, .int .i64 x.t, .slice sa x.s.length sc, .slice da x.d.length dc] 25)) w.heap.size #[.int .i64 x.i, .int .i64 x.t, .slice sa x.s.length sc, .slice da x.d.length dc] 25) := hid_mk (heap_alloc_new w _)
  have HG := hid_mk (World.grownBy_alloc w (.cells #[.int .i64 x.i, .int .i64 x.t, .slice sa x.s.length sc, .slice da x.d.length dc] 25) none)
  have HB : Hid ((w.alloc (.cells #[.int .i64 x.i, .int .i64 x.t, .slice sa x.s.length sc, .slice da x.d.length dc] 25)).heap.size = w.heap.size + 1) := hid_mk (by simp)
  unfold snapV
  go_enter Tryz.func8, Tryz.ntmps8
  go_wp2_with fail
  generalize w.alloc (.cells #[.int .i64 x.i, .int .i64 x.t, .slice sa x.s.length sc, .slice da x.d.length dc] 25) = w0 at *
  rw [← HB.out]
  have HC : ∀ W, w0.grownBy W none → W.cell? ⟨w.heap.size, 0, none⟩ = some (.int .i64 x.i) ∧ W.cell? ⟨w.heap.size, 1, none⟩ = some (.int .i64 x.t) ∧ W.cell? ⟨w.heap.size, 2, none⟩ = some (.slice sa x.s.length sc) ∧ W.cell? ⟨w.heap.size, 3, none⟩ = some (.slice da x.d.length dc) := fun W hW => by
    have k := V.Blk.kept HF.out hW (by simp)
    exact ⟨by rw [k.cell]; rfl, by rw [k.cell]; rfl, by rw [k.cell]; rfl, by rw [k.cell]; rfl⟩
  have H0 : Hid (RS w0 (w0.alloc (.cells #[.int .i64 0, .int .i64 0, .slice none 0 0, .slice none 0 0] 27)) (.slice none 0 0) [] (.slice none 0 0) [] w0.heap.size) := hid_mk ⟨⟨heap_alloc_new _ _, Nat.le_refl _⟩, OwnI.nil _ _, World.ownsRow_nil _ _ _ _, World.grownBy_alloc _ _ none⟩
  generalize w0.alloc (.cells #[.int .i64 0, .int .i64 0, .slice none 0 0, .slice none 0 0] 27) = w1 at *
  have hgA := H0.out.gr
  refine wp_region_fork (X := fun _ _ _ => False) [(0, true), (1, true), (2, true), (3, true), (5, true), (6, true), (9, true), (10, true)] 6 #[true, true, true, true, false, true, true, false, false, true, true, false, false, false] (cl w0 w1) (by kernel_rfl) (by kernel_rfl) rfl (by kernel_rfl) (fun _ _ _ h => h.elim) (shut_at0 (fun m => grown_trans hgA (grown_drewN _ m none))) ⟨1, rfl⟩ ?_
  clear hgA
  repeat (refine mix_rd1X rfl rfl (fun K hK => ?_); apply Exists.intro; refine ⟨fun W hW => ?_, ?_⟩; (obtain ⟨q0, q1, q2, q3⟩ := HC W hW; go_simp; rfl); (go_simp; refine hK _ _ ?_; clear hK K))
  refine mix_nilX ?_
  have H := H0
  clear H0
  refine fork2 4 8 (by kernel_rfl) ?_ ?_
  · refine rs_new_i H.out rfl rfl (fun W => by go_simp) ?_
    intro K hK g4 W4 H
    go_simp
    refine hK _ _ ?_
    clear hK K
    refine fork2 7 8 (by kernel_rfl) ?_ ?_
    · refine rs_app_i H.out x.s _ hns (HS.out.s.kept HG.out) rfl rfl (.tmp 7) (.tmp 9) rfl rfl rfl ?_
      intro K hK a7 c7 W7 H
      go_simp
      refine hK _ _ ?_
      clear hK K
      refine fork1 8 (by kernel_rfl) ?_
      refine rs_new_b H.out rfl rfl (fun W => by go_simp) ?_
      intro K hK g8 W8 H
      go_simp
      refine hK _ _ ?_
      clear hK K
      refine fork1 11 (by kernel_rfl) ?_
      refine rs_app_b H.out x.d _ hnd (HS.out.d.kept HG.out) rfl rfl (.tmp 11) (.tmp 13) rfl rfl rfl ?_
      intro K hK a11 c11 W11 H
      go_simp
      refine hK _ _ ?_
      clear hK K
      refine fork1 12 (by kernel_rfl) ?_
      refine fork_rd rfl rfl (.agg #[.int .i64 x.i, .int .i64 x.t, .slice a7 x.s.length c7, .slice a11 x.d.length c11]) (fun W hW => by go_simp) ?_
      intro K hK
      go_simp
      refine hK _ _ ?_
      clear hK K
      refine fork1 13 (by kernel_rfl) ?_
      refine rs_store x H.out rfl rfl (.tmp 2) (.tmp 15) rfl rfl rfl ?_
      intro K hK W13 H
      go_simp
      refine hK _ _ ?_
      clear hK K
      refine fork_end (by kernel_rfl) ?_
      rintro W ⟨mz, rfl⟩
      obtain ⟨r1, r2, r3, r4⟩ := H.out
      have gz := grown_drewN W13 mz none
      have H9 := hid_mk (show SB (W13.drewN mz) w0.heap.size x.i x.t (.slice a7 x.s.length c7) (.slice a11 x.d.length c11) ∧ SnapAt (W13.drewN mz) (.slice a7 x.s.length c7) (.slice a11 x.d.length c11) x ∧ w.grownBy (W13.drewN mz) none from ⟨V.Blk.kept r1 gz (by simp), ⟨r2.ints.kept gz, r3.byt.kept gz⟩, grown_trans HG.out (grown_trans r4 gz)⟩)
      clear r1 r2 r3 r4 gz H
      generalize W13.drewN mz = W9 at *
      go_wp2_with fail
      exact bodyPost_ret (ret_snap1 rfl _ _ w0.heap.size x.i x.t _ _ rfl H9.out.1) rfl ⟨_, _, rfl, H9.out.2.1, H9.out.2.2⟩
    · refine rs_new_b H.out rfl rfl (fun W => by go_simp) ?_
      intro K hK g8 W8 H
      go_simp
      refine hK _ _ ?_
      clear hK K
      refine fork1 7 (by kernel_rfl) ?_
      refine rs_app_i H.out x.s _ hns (HS.out.s.kept HG.out) rfl rfl (.tmp 7) (.tmp 9) rfl rfl rfl ?_
      intro K hK a7 c7 W7 H
      go_simp
      refine hK _ _ ?_
      clear hK K
      refine fork1 11 (by kernel_rfl) ?_
      refine rs_app_b H.out x.d _ hnd (HS.out.d.kept HG.out) rfl rfl (.tmp 11) (.tmp 13) rfl rfl rfl ?_
      intro K hK a11 c11 W11 H
      go_simp
      refine hK _ _ ?_
      clear hK K
      refine fork1 12 (by kernel_rfl) ?_
      refine fork_rd rfl rfl (.agg #[.int .i64 x.i, .int .i64 x.t, .slice a7 x.s.length c7, .slice a11 x.d.length c11]) (fun W hW => by go_simp) ?_
      intro K hK
      go_simp
      refine hK _ _ ?_
      clear hK K
      refine fork1 13 (by kernel_rfl) ?_
      refine rs_store x H.out rfl rfl (.tmp 2) (.tmp 15) rfl rfl rfl ?_
      intro K hK W13 H
      go_simp
      refine hK _ _ ?_
      clear hK K
      refine fork_end (by kernel_rfl) ?_
      rintro W ⟨mz, rfl⟩
      obtain ⟨r1, r2, r3, r4⟩ := H.out
      have gz := grown_drewN W13 mz none
      have H9 := hid_mk (show SB (W13.drewN mz) w0.heap.size x.i x.t (.slice a7 x.s.length c7) (.slice a11 x.d.length c11) ∧ SnapAt (W13.drewN mz) (.slice a7 x.s.length c7) (.slice a11 x.d.length c11) x ∧ w.grownBy (W13.drewN mz) none from ⟨V.Blk.kept r1 gz (by simp), ⟨r2.ints.kept gz, r3.byt.kept gz⟩, grown_trans HG.out (grown_trans r4 gz)⟩)
      clear r1 r2 r3 r4 gz H
      generalize W13.drewN mz = W9 at *
      go_wp2_with fail
      exact bodyPost_ret (ret_snap1 rfl _ _ w0.heap.size x.i x.t _ _ rfl H9.out.1) rfl ⟨_, _, rfl, H9.out.2.1, H9.out.2.2⟩
  · refine rs_new_b H.out rfl rfl (fun W => by go_simp) ?_
    intro K hK g8 W8 H
    go_simp
    refine hK _ _ ?_
    clear hK K
    refine fork1 4 (by kernel_rfl) ?_
    refine rs_new_i H.out rfl rfl (fun W => by go_simp) ?_
    intro K hK g4 W4 H
    go_simp
    refine hK _ _ ?_
    clear hK K
    refine fork1 7 (by kernel_rfl) ?_
    refine rs_app_i H.out x.s _ hns (HS.out.s.kept HG.out) rfl rfl (.tmp 7) (.tmp 9) rfl rfl rfl ?_
    intro K hK a7 c7 W7 H
    go_simp
    refine hK _ _ ?_
    clear hK K
    refine fork1 11 (by kernel_rfl) ?_
    refine rs_app_b H.out x.d _ hnd (HS.out.d.kept HG.out) rfl rfl (.tmp 11) (.tmp 13) rfl rfl rfl ?_
    intro K hK a11 c11 W11 H
    go_simp
    refine hK _ _ ?_
    clear hK K
    refine fork1 12 (by kernel_rfl) ?_
    refine fork_rd rfl rfl (.agg #[.int .i64 x.i, .int .i64 x.t, .slice a7 x.s.length c7, .slice a11 x.d.length c11]) (fun W hW => by go_simp) ?_
    intro K hK
    go_simp
    refine hK _ _ ?_
    clear hK K
    refine fork1 13 (by kernel_rfl) ?_
    refine rs_store x H.out rfl rfl (.tmp 2) (.tmp 15) rfl rfl rfl ?_
    intro K hK W13 H
    go_simp
    refine hK _ _ ?_
    clear hK K
    refine fork_end (by kernel_rfl) ?_
    rintro W ⟨mz, rfl⟩
    obtain ⟨r1, r2, r3, r4⟩ := H.out
    have gz := grown_drewN W13 mz none
    have H9 := hid_mk (show SB (W13.drewN mz) w0.heap.size x.i x.t (.slice a7 x.s.length c7) (.slice a11 x.d.length c11) ∧ SnapAt (W13.drewN mz) (.slice a7 x.s.length c7) (.slice a11 x.d.length c11) x ∧ w.grownBy (W13.drewN mz) none from ⟨V.Blk.kept r1 gz (by simp), ⟨r2.ints.kept gz, r3.byt.kept gz⟩, grown_trans HG.out (grown_trans r4 gz)⟩)
    clear r1 r2 r3 r4 gz H
    generalize W13.drewN mz = W9 at *
    go_wp2_with fail
    exact bodyPost_ret (ret_snap1 rfl _ _ w0.heap.size x.i x.t _ _ rfl H9.out.1) rfl ⟨_, _, rfl, H9.out.2.1, H9.out.2.2⟩

end Go.Proofs.YtmlppjmpoanlkaaGreatDoor.W

/- snaps: no disk, and one that nobody made; the document's Right. -/
namespace Go.Proofs.YtmlppjmpoanlkaaGreatDoor.W
open Go.RowKit Go.Maps Go.Shelf
set_option linter.unusedVariables false
set_option linter.unusedSimpArgs false
set_option maxRecDepth 100000

/-- No disk, or one that nobody made. -/
def NoD (w : World) (p : Option Addr) : Prop := p = none ∨ ∃ b cs t, p = some ⟨b, 0, none⟩ ∧ V.Blk w b cs t ∧ cs[3]? = some (.map none)
theorem NoD.kept {w w' : World} {p : Option Addr} (h : NoD w p) (hg : w.grownBy w' none) : NoD w' p := by
  rcases h with rfl | ⟨b, cs, t, rfl, hb, hc⟩
  · exact .inl rfl
  · exact .inr ⟨b, cs, t, rfl, V.Blk.kept hb hg (by simp), hc⟩
theorem made_no (p : Option Addr) (w : World) (h : NoD w p) : Calls Tryz.prog 50 #[.pointer p] w fun e w' => e = .returned (.bool false) ∧ w' = w := by
  rcases h with rfl | ⟨b, cs, t, rfl, hb, hc⟩
  · exact made_nil w
  · exact made_zero b w (by rw [hb.cell]; exact hc)
theorem remove_not (p : Option Addr) (s : ByteArray) (w : World) (h : NoD w p) : Calls Tryz.prog 101 #[.pointer p, .string s] w fun e w' => e = .returned (.int .i64 1) ∧ w.grownBy w' none := by
  rcases h with rfl | ⟨b, cs, t, rfl, hb, hc⟩
  · exact V.remove_nil s w
  · exact V.remove_zero b s w (by rw [hb.cell]; exact hc)
theorem removeU_no (p : Option Addr) (w : World) (h : NoD w p) : Calls Tryz.prog 58 #[.pointer p] w fun e w' => e = .returned (.int .i64 1) ∧ w.grownBy w' none := by
  have HC := hid_mk (remove_not p nmU w h)
  unfold nmU at HC
  clear h
  go_enter Tryz.func58, Tryz.ntmps58
  go_wp2_with fail
  refine HC.out.mono ?_
  rintro e w1 ⟨rfl, hg1⟩
  have H1 := hid_mk hg1
  clear hg1 HC
  go_wp2_with fail
  go_ret
  exact ⟨rfl, H1.out⟩
theorem clean_no (p : Option Addr) (w : World) (h : NoD w p) : Calls Tryz.prog 20 #[.pointer p] w fun e w' => e = .returned (.int .i64 1) ∧ w.grownBy w' none := by
  have HC := hid_mk h
  clear h
  go_enter Tryz.func20, Tryz.ntmps20
  go_wp2_with fail
  refine (removeU_no p w HC.out).mono ?_
  rintro e w1 ⟨rfl, hg1⟩
  have H1 := hid_mk hg1
  clear hg1 HC
  go_wp2_with fail
  go_ret
  exact ⟨rfl, H1.out⟩
/-- Load's boxes. -/
structure L4 (w W : World) (i t : Int) (sv dv : Value) (okv : Bool) (ev : Int) : Prop where
  bs : SB W (w.heap.size + 1) i t sv dv
  bo : V.Blk W (w.heap.size + 2) #[.bool okv] 4
  be : V.Blk W (w.heap.size + 3) #[.int .i64 ev] 29
  gr : w.grownBy W none
theorem four_no (w : World) (p : Option Addr) : L4 w ((((w.alloc (.cells #[.pointer p] 43)).alloc (.cells #[.int .i64 0, .int .i64 0, .slice none 0 0, .slice none 0 0] 27)).alloc (.cells #[.bool false] 4)).alloc (.cells #[.int .i64 0] 29)) 0 0 (.slice none 0 0) (.slice none 0 0) false 0 := by
  have b2 := heap_alloc_new (w.alloc (.cells #[.pointer p] 43)) (.cells #[.int .i64 0, .int .i64 0, .slice none 0 0, .slice none 0 0] 27)
  have b3 := heap_alloc_new ((w.alloc (.cells #[.pointer p] 43)).alloc (.cells #[.int .i64 0, .int .i64 0, .slice none 0 0, .slice none 0 0] 27)) (.cells #[.bool false] 4)
  have b4 := heap_alloc_new (((w.alloc (.cells #[.pointer p] 43)).alloc (.cells #[.int .i64 0, .int .i64 0, .slice none 0 0, .slice none 0 0] 27)).alloc (.cells #[.bool false] 4)) (.cells #[.int .i64 0] 29)
  simp only [World.size_alloc] at b2 b3 b4
  refine ⟨V.Blk.kept (V.Blk.kept b2 (World.grownBy_alloc _ _ none) (by simp)) (World.grownBy_alloc _ _ none) (by simp), V.Blk.kept b3 (World.grownBy_alloc _ _ none) (by simp), b4, ?_⟩
  exact grown_trans (World.grownBy_alloc _ _ none) (grown_trans (World.grownBy_alloc _ _ none) (grown_trans (World.grownBy_alloc _ _ none) (World.grownBy_alloc _ _ none)))
theorem L4.setS {w W : World} {i t : Int} {sv dv : Value} {okv : Bool} {ev : Int} (h : L4 w W i t sv dv okv ev) (i' t' : Int) (sv' dv' : Value) : L4 w ((((W.setCell ⟨w.heap.size + 1, 0, none⟩ (.int .i64 i')).setCell ⟨w.heap.size + 1, 1, none⟩ (.int .i64 t')).setCell ⟨w.heap.size + 1, 2, none⟩ sv').setCell ⟨w.heap.size + 1, 3, none⟩ dv') i' t' sv' dv' okv ev := by
  have g : ∀ (X : World) (j : Nat) (u : Value), X.grownBy (X.setCell ⟨w.heap.size + 1, j, none⟩ u) (some (w.heap.size + 1)) := fun X j u => grown_setCell X _ j u
  have k : ∀ {X : World} {q : Nat} {cs : Array Value} {tt : TypeId} (j : Nat) (u : Value), V.Blk X q cs tt → q ≠ w.heap.size + 1 → V.Blk (X.setCell ⟨w.heap.size + 1, j, none⟩ u) q cs tt := fun j u hb hq => V.Blk.kept hb (g _ j u) (by simp; omega)
  refine ⟨h.bs.laid i' t' sv' dv', k _ _ (k _ _ (k _ _ (k _ _ h.bo (by omega)) (by omega)) (by omega)) (by omega), k _ _ (k _ _ (k _ _ (k _ _ h.be (by omega)) (by omega)) (by omega)) (by omega), ?_⟩
  exact grown_new (grown_new (grown_new (grown_new h.gr (g _ _ _) (by omega)) (g _ _ _) (by omega)) (g _ _ _) (by omega)) (g _ _ _) (by omega)
theorem L4.setO {w W : World} {i t : Int} {sv dv : Value} {okv : Bool} {ev : Int} (h : L4 w W i t sv dv okv ev) (okv' : Bool) : L4 w (W.setCell ⟨w.heap.size + 2, 0, none⟩ (.bool okv')) i t sv dv okv' ev := by
  have g := grown_setCell W (w.heap.size + 2) 0 (.bool okv')
  exact ⟨V.Blk.kept h.bs g (by simp), V.Blk.set h.bo 0 _, V.Blk.kept h.be g (by simp), grown_new h.gr g (by omega)⟩
theorem L4.setE {w W : World} {i t : Int} {sv dv : Value} {okv : Bool} {ev : Int} (h : L4 w W i t sv dv okv ev) (ev' : Int) : L4 w (W.setCell ⟨w.heap.size + 3, 0, none⟩ (.int .i64 ev')) i t sv dv okv ev' := by
  have g := grown_setCell W (w.heap.size + 3) 0 (.int .i64 ev')
  exact ⟨V.Blk.kept h.bs g (by simp), V.Blk.kept h.bo g (by simp), V.Blk.set h.be 0 _, grown_new h.gr g (by omega)⟩
theorem L4.cells {w W : World} {i t : Int} {sv dv : Value} {okv : Bool} {ev : Int} (h : L4 w W i t sv dv okv ev) : W.cell? ⟨w.heap.size + 2, 0, none⟩ = some (.bool okv) ∧ W.cell? ⟨w.heap.size + 3, 0, none⟩ = some (.int .i64 ev) ∧ (∀ j, W.frozen? ⟨w.heap.size + 2, j, none⟩ = false) ∧ ∀ j, W.frozen? ⟨w.heap.size + 3, j, none⟩ = false :=
  ⟨by rw [h.bo.cell]; rfl, by rw [h.be.cell]; rfl, fun j => h.bo.frozen j, fun j => h.be.frozen j⟩
theorem L4.ret {tmps : Array Value} {w W : World} {i t : Int} {sv dv : Value} {okv : Bool} {ev : Int} (h : L4 w W i t sv dv okv ev) (h2 : tmps.getD 2 undef = .pointer (some ⟨w.heap.size + 1, 0, none⟩)) (h3 : tmps.getD 3 undef = .pointer (some ⟨w.heap.size + 2, 0, none⟩)) (h4 : tmps.getD 4 undef = .pointer (some ⟨w.heap.size + 3, 0, none⟩)) :
    (results Tryz.f17 tmps).run Tryz.prog W = .ok (.tuple #[.agg #[.int .i64 i, .int .i64 t, sv, dv], .bool okv, .int .i64 ev]) W := by
  obtain ⟨d0, e0, _, _⟩ := h.cells
  have r1 := load27 W _ _ _ _ _ h.bs
  have r2 : (loadVar 4 ⟨w.heap.size + 2, 0, none⟩).run Tryz.prog W = .ok (.bool okv) W := by simp [loadVar, go_sem, d0]
  have r3 : (loadVar 29 ⟨w.heap.size + 3, 0, none⟩).run Tryz.prog W = .ok (.int .i64 ev) W := by simp [loadVar, go_sem, e0]
  have e : Tryz.f17.results = #[.cell 2 27, .cell 3 4, .cell 4 29] := rfl
  simp only [results, e]
  have h2' : tmps[2]?.getD undef = .pointer (some ⟨w.heap.size + 1, 0, none⟩) := by simpa using h2
  have h3' : tmps[3]?.getD undef = .pointer (some ⟨w.heap.size + 2, 0, none⟩) := by simpa using h3
  have h4' : tmps[4]?.getD undef = .pointer (some ⟨w.heap.size + 3, 0, none⟩) := by simpa using h4
  simp [h2', h3', h4', asAddr, Sem.run_bind, Result.andThen, r1, r2, r3]
set_option maxHeartbeats 1000000 in
theorem load_no (p : Option Addr) (w : World) (h : NoD w p) : Calls Tryz.prog 17 #[.pointer p] w fun e w' => e = .returned (.tuple #[zeroS, .bool false, .int .i64 1]) ∧ w.grownBy w' none := by
  have HC := hid_mk h
  have HL := hid_mk (four_no w p)
  clear h
  refine (callsIn_wide (n := 11)).1 ?_
  refine callsIn_of_wp_marks Tryz.func17 rfl trivial ?_ rfl
  simp only [Tryz.ntmps17, List.size_toArray, List.length_cons, List.length_nil, Nat.reduceAdd, Nat.reduceSub, Array.replicate_succ, Array.replicate_zero, List.push_toArray, List.append_toArray, List.nil_append, List.cons_append]
  gi_wp2_with fail
  generalize ((((w.alloc (.cells #[.pointer p] 43)).alloc (.cells #[.int .i64 0, .int .i64 0, .slice none 0 0, .slice none 0 0] 27)).alloc (.cells #[.bool false] 4)).alloc (.cells #[.int .i64 0] 29)) = w0 at *
  refine ⟨trivial, (callsIn_wide.2 (made_no p w0 (HC.out.kept HL.out.gr))).mono ?_⟩
  rintro e w1 ⟨rfl, rfl⟩
  have HZ := hid_mk (((HL.out.setS 0 0 (.slice none 0 0) (.slice none 0 0)).setO false).setE 1)
  obtain ⟨c0, c1, c2, c3, cf⟩ := HL.out.bs.all
  obtain ⟨d0, e0, df, ef⟩ := HL.out.cells
  gi_wp2
  exact ⟨_, HZ.out.ret rfl rfl rfl, rfl, HZ.out.gr⟩
set_option maxHeartbeats 1000000 in
theorem save_no (p : Option Addr) (x : Snap) (sv dv : Value) (w : World) (h : NoD w p) (hx : SnapAt w sv dv x) (hm : mayS x = true) (ht : F.Tab w) : Calls Tryz.prog 18 #[.pointer p, snapV x sv dv] w fun e w' => e = .returned (.int .i64 1) ∧ w.grownBy w' none := by
  obtain ⟨sa, sc, rfl⟩ := hx.s.len
  obtain ⟨da, dc, rfl⟩ := hx.d.len
  have HC := hid_mk (And.intro h (And.intro hm ht))
  have HA : Hid (w.grownBy (w.alloc (.cells #[.int .i64 x.i, .int .i64 x.t, .slice sa x.s.length sc, .slice da x.d.length dc] 27)) none) := hid_mk (World.grownBy_alloc _ _ _)
  have HX := hid_mk (hx.kept HA.out)
  clear h hx hm ht
  unfold snapV
  go_enter Tryz.func18, Tryz.ntmps18
  go_wp2_with fail
  generalize (w.alloc (.cells #[.int .i64 x.i, .int .i64 x.t, .slice sa x.s.length sc, .slice da x.d.length dc] 27)) = w0 at *
  refine (putS_ok x _ _ w0 HX.out HC.out.2.1 (HC.out.2.2.kept HA.out)).mono ?_
  rintro e w1 ⟨a1, c1, rfl, ho1, hg1⟩
  have H1 := hid_mk (grown_trans HA.out hg1)
  clear hg1 ho1 HX HA
  go_wp2_with fail
  refine (load_no p w1 (HC.out.1.kept H1.out)).mono ?_
  rintro e w2 ⟨rfl, hg2⟩
  have H2 := hid_mk (grown_trans H1.out (grown_trans hg2 (World.grownBy_alloc w2 (.cells #[.int .i64 0, .int .i64 0, .slice none 0 0, .slice none 0 0] 27) none)))
  clear hg2 H1
  unfold zeroS
  go_wp2_with fail
  go_ret
  exact ⟨rfl, H2.out⟩
set_option maxHeartbeats 1000000 in
theorem right_doc (x : Snap) (sv dv : Value) (w : World) (h : SnapAt w sv dv x) (hl : x.s.length ≤ 140737488355328) : Calls Tryz.prog 22 #[snapV x sv dv] w fun e w' => e = .returned (.bool (mayS x)) ∧ w.grownBy w' none := by
  obtain ⟨sa, sc, rfl⟩ := h.s.len
  obtain ⟨da, dc, rfl⟩ := h.d.len
  have HA : Hid (V.Blk (w.alloc (.cells #[.int .i64 x.i, .int .i64 x.t, .slice sa x.s.length sc, .slice da x.d.length dc] 25)) w.heap.size #[.int .i64 x.i, .int .i64 x.t, .slice sa x.s.length sc, .slice da x.d.length dc] 25 ∧ w.grownBy (w.alloc (.cells #[.int .i64 x.i, .int .i64 x.t, .slice sa x.s.length sc, .slice da x.d.length dc] 25)) none) := hid_mk ⟨heap_alloc_new _ _, World.grownBy_alloc _ _ _⟩
  have HX := hid_mk (h.kept HA.out.2)
  clear h
  unfold snapV
  by_cases hb : 1 ≤ x.i ∧ x.i < 1099511627776 ∧ 1 ≤ x.t ∧ x.t < 1099511627776
  · obtain ⟨b1, b2, b3, b4⟩ := hb
    have hm : mayS x = (rightS x.s && decide (x.d.length ≤ 60000)) := by unfold mayS inB; simp only [b1, b2, b3, b4, show x.i ≤ 1099511627775 by omega, decide_true, Bool.true_and]
    rw [hm]
    clear hm
    go_enter Tryz.func22, Tryz.ntmps22
    go_wp2_with fail
    generalize (w.alloc (.cells #[.int .i64 x.i, .int .i64 x.t, .slice sa x.s.length sc, .slice da x.d.length dc] 25)) = w0 at *
    refine (rright_any _ x.s w0 HX.out.s hl).mono ?_
    rintro e w1 ⟨rfl, m1, rfl⟩
    have hg1 := grown_drewN w0 m1 none
    have H1 := hid_mk (And.intro (V.Blk.kept HA.out.1 hg1 (by simp)) (grown_trans HA.out.2 hg1))
    clear hg1
    generalize w0.drewN m1 = w1 at *
    have p3 : w1.cell? ⟨w.heap.size, 3, none⟩ = some (.slice da x.d.length dc) := by rw [H1.out.1.cell]; rfl
    obtain ⟨rs, hrs⟩ : ∃ rs, rs = rightS x.s := ⟨_, rfl⟩
    rw [← hrs]
    have HR := hid_mk hrs
    clear hrs
    cases rs with
    | false =>
      go_wp2_with fail
      go_ret
      exact ⟨by rw [← HR.out]; rfl, H1.out.2⟩
    | true =>
      by_cases hd : x.d.length ≤ 60000
      · have hd' : (x.d.length : Int) ≤ 60000 := by omega
        go_wp2_with fail
        go_ret
        exact ⟨by rw [← HR.out]; simp [hd], H1.out.2⟩
      · have hd' : ¬ (x.d.length : Int) ≤ 60000 := by omega
        go_wp2_with fail
        go_ret
        exact ⟨by rw [← HR.out]; simp [hd]; omega, H1.out.2⟩
  · have hm : mayS x = false := by
      cases hh : mayS x with
      | false => rfl
      | true =>
        obtain ⟨b1, b2, b3, b4, b5⟩ := inB_iff.1 (mayS_iff.1 hh).2
        exact absurd ⟨b1, by omega, b3, b4⟩ hb
    rw [hm]
    clear hm
    have HB := hid_mk hb
    clear hb
    go_enter Tryz.func22, Tryz.ntmps22
    go_wp2_with (first | (go_at_call 60; exfalso; have := HB.out; omega))
    all_goals (go_ret; exact ⟨rfl, HA.out.2⟩)

end Go.Proofs.YtmlppjmpoanlkaaGreatDoor.W
