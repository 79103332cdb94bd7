/- snaps: Own. -/
import Derived.Test.YtmlppjmpoanlkaaGreatDoorSMixX
namespace Go.Proofs.YtmlppjmpoanlkaaGreatDoor.W
open Go.RowKit Go.Maps Go.Shelf
set_option linter.unusedVariables false
set_option linter.unusedSimpArgs false
set_option maxRecDepth 100000

/-- append([]int{}, l...), as an operation. -/
theorem run_append_ints (w0 W : World) {o : Oper} {a : Act} (s y : Operand) (ho : o.op = .call { callee := .builtin .append, args := #[s, y], argTypes := #[22, 22] }) (hg0 : w0.grownBy W none)
    (v : Value) (hs : a.eval s = v) (hown : OwnI W w0.heap.size v []) (l : List Int) (sv : Value) (hy : a.eval y = sv) (h : IntsR W sv l) (hl : l.length ≤ 17592186044416) :
    ∃ a' c' W', (execOp a.eval o).run Tryz.prog W = .ok (.value (.slice a' l.length c')) W' ∧ OwnI W' w0.heap.size (.slice a' l.length c') l ∧ w0.grownBy W' none ∧ W.grownBy W' v.ownBlock := by
  obtain ⟨i0, hi, hz0, hz1, hz2⟩ := info_parts info3
  have hone : ∀ u ∈ i64s l, u.oneCell' = true := fun u hu => by
    obtain ⟨x, _, rfl⟩ := List.mem_map.1 hu; rfl
  have key : ∀ (ad : Addr) (n c : Nat), sv = .slice (some ad) n c → l.length = n → (∀ j u, (i64s l)[j]? = some u → W.cell? (ad.add j) = some u) →
      ∃ a' c' W', (execOp a.eval o).run Tryz.prog W = .ok (.value (.slice a' l.length c')) W' ∧ OwnI W' w0.heap.size (.slice a' l.length c') l ∧ w0.grownBy W' none ∧ W.grownBy W' v.ownBlock := by
    intro ad n c e hn hcl
    subst hn
    have hown' : W.ownsRow w0.heap.size 3 1 v 0 [] := hown
    obtain ⟨v', w', hrun, r1, r2, _, _⟩ := run_append_own_at (P := Tryz.prog) W w0.heap.size 22 o.type 3 i0 (.int .i64 0) 1 8 Tryz.underlying22 hi hz0 hz1 hz2 rfl (by decide) v 0 [] hown' ad l.length c (i64s l) (by simp [i64s]) hcl hone (by unfold maxLen; omega) (by omega) hg0.size
    simp only [Nat.zero_add, List.nil_append] at r1
    obtain ⟨a', c', rfl⟩ := row_shape r1
    refine ⟨a', c', w', ?_, r1, grown_row hg0 hown' r2, r2⟩
    rw [e] at hy
    simp [execOp, ho, resolve, invoke, builtin, hs, hy, hrun, Result.andThen]
  rcases h with ⟨rfl, a', cap', e, hn⟩ | ⟨b, off, cap', e, _, hcl⟩
  · cases a' with
    | none =>
      obtain rfl := hn rfl
      have hown' : W.ownsRow w0.heap.size 3 1 v 0 [] := hown
      have hrun := run_append_owned_none (P := Tryz.prog) W w0.heap.size 22 o.type 3 i0 1 Tryz.underlying22 hi v 0 [] hown'
      obtain ⟨a1, c1, rfl⟩ := row_shape hown'
      refine ⟨a1, c1, W, ?_, hown, hg0, grown_refl _ _⟩
      rw [e] at hy
      simp [execOp, ho, resolve, invoke, builtin, hs, hy, hrun, Result.andThen]
    | some ad => exact key ad 0 cap' e rfl (fun j u hj => by simp [i64s] at hj)
  · refine key ⟨b, off, none⟩ l.length cap' e rfl (fun j u hj => ?_)
    simp only [i64s, List.getElem?_map, Option.map_eq_some_iff] at hj
    obtain ⟨x, hx, rfl⟩ := hj
    rw [← hcl j x hx, addr_add]

/-- What is there so far: ints, bytes. -/
structure RS (w0 W : World) (iv : Value) (il : List Int) (bv : Value) (bl : List UInt8) (g0 : Nat) : Prop where
  p : W.heap[g0]? = some (.cells #[.int .i64 0, .int .i64 0, .slice none 0 0, .slice none 0 0] 27 (0, 0)) ∧ w0.heap.size ≤ g0
  i : OwnI W w0.heap.size iv il
  b : Own W w0.heap.size bv bl
  gr : w0.grownBy W none
theorem RS.kept {w0 W W' : World} {iv bv : Value} {il : List Int} {bl : List UInt8} {g0 : Nat} (h : RS w0 W iv il bv bl g0) (hg : W.grownBy W' none) : RS w0 W' iv il bv bl g0 :=
  ⟨⟨(hg.block g0 (Array.getElem?_eq_some_iff.1 h.p.1).1 (by simp)).trans h.p.1, h.p.2⟩, owns_kept h.i hg (fun _ _ _ => by simp), h.b.kept hg (.inl rfl), grown_trans h.gr hg⟩

section
variable {X : List PanicEntry → List Deferred → World → Prop} {ops : Array Oper} {K : Act → Cl → Prop} {a : Act} {i : Nat} {o : Oper} {w0 w1 : World} {iv bv : Value} {il : List Int} {bl : List UInt8} {g0 : Nat}
abbrev cl (w0 W : World) : Cl := at0 W (fun W => w0.grownBy W none)
theorem cl_behind {w0 W : World} {C : Cl} (hg : w0.grownBy W none) (hC : ∀ x, w0.grownBy x none → C.all x) (h : K a (cl w0 W)) : Behind C K a W :=
  ⟨cl w0 W, ⟨0, rfl⟩, shut_at0 (fun m => grown_trans hg (grown_drewN _ _ none)), hC, h⟩
theorem rs_new_i (h : RS w0 w1 iv il bv bl g0) (ho : ops[i]? = some o) (hw : Region.wanted o (yielded ops a.tmps) = true) (hrun : ∀ W : World, (execOp a.eval o).run Tryz.prog W = .ok (.value (.slice (some ⟨W.heap.size, 0, none⟩) 0 0)) (W.alloc (.cells #[] 3)))
    (hc : ∀ K' : Act → Cl → Prop, (∀ a C, K a C → K' a C) → ∀ g W', Hid (RS w0 W' (.slice (some ⟨g, 0, none⟩) 0 0) [] bv bl g0) → K' (a.put o.dst (.slice (some ⟨g, 0, none⟩) 0 0)) (cl w0 W')) : mxOpX Tryz.prog X ops i K a (cl w0 w1) := by
  refine fork_do ho hw (fun W hW => ?_)
  obtain ⟨m, rfl⟩ := hW
  have hk := h.kept (grown_drewN w1 m none)
  have hk' := hk.kept (World.grownBy_alloc (w1.drewN m) (.cells #[] 3) none)
  refine ⟨_, _, hrun _, cl_behind hk'.gr (fun _ h => h) (hc K (fun _ _ h => h) _ _ (hid_mk ⟨hk'.p, ?_, hk'.b, hk'.gr⟩))⟩
  exact World.ownsRow_made (e := 3) (size := 1) (base := w0.heap.size) (w1.drewN m) #[] 0 hk.gr.size (by unfold maxLen; omega) (by simp)
theorem rs_new_b (h : RS w0 w1 iv il bv bl g0) (ho : ops[i]? = some o) (hw : Region.wanted o (yielded ops a.tmps) = true) (hrun : ∀ W : World, (execOp a.eval o).run Tryz.prog W = .ok (.value (.slice (some ⟨W.heap.size, 0, none⟩) 0 0)) (W.alloc (.cells #[] 5)))
    (hc : ∀ K' : Act → Cl → Prop, (∀ a C, K a C → K' a C) → ∀ g W', Hid (RS w0 W' iv il (.slice (some ⟨g, 0, none⟩) 0 0) [] g0) → K' (a.put o.dst (.slice (some ⟨g, 0, none⟩) 0 0)) (cl w0 W')) : mxOpX Tryz.prog X ops i K a (cl w0 w1) := by
  refine fork_do ho hw (fun W hW => ?_)
  obtain ⟨m, rfl⟩ := hW
  have hk := h.kept (grown_drewN w1 m none)
  have hk' := hk.kept (World.grownBy_alloc (w1.drewN m) (.cells #[] 5) none)
  refine ⟨_, _, hrun _, cl_behind hk'.gr (fun _ h => h) (hc K (fun _ _ h => h) _ _ (hid_mk ⟨hk'.p, hk'.i, ?_, hk'.gr⟩))⟩
  exact (own_empty (w1.drewN m)).base hk.gr.size
theorem rs_app_i (h : RS w0 w1 iv [] bv bl g0) (l : List Int) (sv : Value) (hl : l.length ≤ 17592186044416) (hsv : IntsR w0 sv l) (ho : ops[i]? = some o) (hw : Region.wanted o (yielded ops a.tmps) = true) (s y : Operand) (hop : o.op = .call { callee := .builtin .append, args := #[s, y], argTypes := #[22, 22] }) (hs : a.eval s = iv) (hy : a.eval y = sv)
    (hc : ∀ K' : Act → Cl → Prop, (∀ a C, K a C → K' a C) → ∀ a' c' W', Hid (RS w0 W' (.slice a' l.length c') l bv bl g0) → K' (a.put o.dst (.slice a' l.length c')) (cl w0 W')) : mxOpX Tryz.prog X ops i K a (cl w0 w1) := by
  refine fork_do ho hw (fun W hW => ?_)
  obtain ⟨m, rfl⟩ := hW
  have hk := h.kept (grown_drewN w1 m none)
  obtain ⟨a', c', W', hrun, h1, h2, h3⟩ := run_append_ints w0 (w1.drewN m) s y hop hk.gr iv hs hk.i l sv hy (hsv.kept hk.gr) hl
  exact ⟨_, W', hrun, cl_behind h2 (fun _ h => h) (hc K (fun _ _ h => h) a' c' W' (hid_mk ⟨⟨(h3.block g0 (Array.getElem?_eq_some_iff.1 hk.p.1).1 (own_tag hk.i hk.p.1 (by decide))).trans hk.p.1, hk.p.2⟩, h1, owns_kept hk.b h3 (fun g cur hh => own_tag hk.i hh (by decide)), h2⟩))⟩
theorem rs_app_b (h : RS w0 w1 iv il bv [] g0) (l : List UInt8) (sv : Value) (hl : l.length ≤ 140737488355328) (hsv : Byt w0 sv l) (ho : ops[i]? = some o) (hw : Region.wanted o (yielded ops a.tmps) = true) (s y : Operand) (hop : o.op = .call { callee := .builtin .append, args := #[s, y], argTypes := #[23, 23] }) (hs : a.eval s = bv) (hy : a.eval y = sv)
    (hc : ∀ K' : Act → Cl → Prop, (∀ a C, K a C → K' a C) → ∀ a' c' W', Hid (RS w0 W' iv il (.slice a' l.length c') l g0) → K' (a.put o.dst (.slice a' l.length c')) (cl w0 W')) : mxOpX Tryz.prog X ops i K a (cl w0 w1) := by
  refine fork_do ho hw (fun W hW => ?_)
  obtain ⟨m, rfl⟩ := hW
  have hk := h.kept (grown_drewN w1 m none)
  obtain ⟨a', c', W', hrun, h1, h2, h3⟩ := run_append_byt w0 (w1.drewN m) s y hop hk.gr bv [] hs hk.b l sv hy (hsv.kept hk.gr) (by simpa using hl)
  simp only [List.length_nil, Nat.zero_add, List.nil_append] at hrun h1
  exact ⟨_, W', hrun, cl_behind h2 (fun _ h => h) (hc K (fun _ _ h => h) a' c' W' (hid_mk ⟨⟨(h3.block g0 (Array.getElem?_eq_some_iff.1 hk.p.1).1 (own_tag hk.b hk.p.1 (by decide))).trans hk.p.1, hk.p.2⟩, owns_kept hk.i h3 (fun g cur hh => own_tag hk.b hh (by decide)), h1, h2⟩))⟩
theorem fork_rd {C : Cl} (ho : ops[i]? = some o) (hw : Region.wanted o (yielded ops a.tmps) = true) (v : Value) (hv : ∀ W, C.all W → (execOp a.eval o).run Tryz.prog W = .ok (.value v) W) (h : ∀ K' : Act → Cl → Prop, (∀ a C, K a C → K' a C) → K' (a.put o.dst v) C) : mxOpX Tryz.prog X ops i K a C := by
  unfold mxOpX
  simp only [ho, hw, if_true]
  exact .inl ⟨v, fun W hC => by unfold readAt; rw [hv W hC]; exact ⟨rfl, rfl⟩, h K (fun _ _ h => h)⟩
/-- The store into the box of what is answered. -/
theorem rs_store (x : Snap) {a1 a2 : Option Addr} {c1 c2 : Nat} (h : RS w0 w1 (.slice a1 x.s.length c1) x.s (.slice a2 x.d.length c2) x.d g0) (ho : ops[i]? = some o) (hw : Region.wanted o (yielded ops a.tmps) = true)
    (s y : Operand) (hop : o.op = .store 27 s y) (hs : a.eval s = .pointer (some ⟨g0, 0, none⟩)) (hy : a.eval y = .agg #[.int .i64 x.i, .int .i64 x.t, .slice a1 x.s.length c1, .slice a2 x.d.length c2])
    (hc : ∀ K' : Act → Cl → Prop, (∀ a C, K a C → K' a C) → ∀ W', Hid (SB W' g0 x.i x.t (.slice a1 x.s.length c1) (.slice a2 x.d.length c2) ∧ OwnI W' w0.heap.size (.slice a1 x.s.length c1) x.s ∧ Own W' w0.heap.size (.slice a2 x.d.length c2) x.d ∧ w0.grownBy W' none) → K' (a.put o.dst undef) (cl w0 W')) : mxOpX Tryz.prog X ops i K a (cl w0 w1) := by
  unfold mxOpX
  simp only [ho, hw, if_true]
  refine .inr fun W hW => ?_
  obtain ⟨n, rfl⟩ := hW
  have hk := h.kept (grown_drewN w1 n none)
  have hb : SB (w1.drewN n) g0 0 0 (.slice none 0 0) (.slice none 0 0) := hk.p.1
  obtain ⟨h0, h1, h2, h3, hz⟩ := hb.all
  have hg : (w1.drewN n).grownBy (((((w1.drewN n).setCell ⟨g0, 0, none⟩ (.int .i64 x.i)).setCell ⟨g0, 1, none⟩ (.int .i64 x.t)).setCell ⟨g0, 2, none⟩ (.slice a1 x.s.length c1)).setCell ⟨g0, 3, none⟩ (.slice a2 x.d.length c2)) (some g0) :=
    grown_trans (grown_setCell _ _ _ _) (grown_trans (grown_setCell _ _ _ _) (grown_trans (grown_setCell _ _ _ _) (grown_setCell _ _ _ _)))
  have hrun : (execOp a.eval o).run Tryz.prog (w1.drewN n) = .ok .skip (((((w1.drewN n).setCell ⟨g0, 0, none⟩ (.int .i64 x.i)).setCell ⟨g0, 1, none⟩ (.int .i64 x.t)).setCell ⟨g0, 2, none⟩ (.slice a1 x.s.length c1)).setCell ⟨g0, 3, none⟩ (.slice a2 x.d.length c2)) := by
    simp only [execOp, hop, hs, hy]
    simp [go_sem, h0, h1, h2, h3, hz]
  rw [hrun]
  have hgr := grown_new hk.gr hg hk.p.2
  exact cl_behind hgr (fun _ h => h) (hc K (fun _ _ h => h) _ (hid_mk ⟨hb.laid _ _ _ _, owns_kept hk.i hg (fun _ _ hh => ne_tag hh hk.p.1 (by decide)), owns_kept hk.b hg (fun _ _ hh => ne_tag hh hk.p.1 (by decide)), hgr⟩))
end

set_option maxHeartbeats 4000000 in
theorem own_any (x : Snap) (sv dv : Value) (w : World) (h : SnapAt w sv dv x) (hns : x.s.length ≤ 17592186044416) (hnd : x.d.length ≤ 140737488355328) : Calls Tryz.prog 8 #[snapV x sv dv] w fun e w' => ∃ sv' dv', e = .returned (snapV x sv' dv') ∧ SnapAt w' sv' dv' x ∧ w.grownBy w' none := by
  obtain ⟨sa, sc, rfl⟩ := h.s.len
  obtain ⟨da, dc, rfl⟩ := h.d.len
  have HS := hid_mk h
  clear h
  have HF : Hid (V.Blk (w.alloc (.cells #[.int .i64 x.i, .int .i64 x.t, .slice sa x.s.length sc, .slice da x.d.length dc] 25)) w.heap.size #[.int .i64 x.i, .int .i64 x.t, .slice sa x.s.length sc, .slice da x.d.length dc] 25) := hid_mk (heap_alloc_new w _)
  have HG := hid_mk (World.grownBy_alloc w (.cells #[.int .i64 x.i, .int .i64 x.t, .slice sa x.s.length sc, .slice da x.d.length dc] 25) none)
  have HB : Hid ((w.alloc (.cells #[.int .i64 x.i, .int .i64 x.t, .slice sa x.s.length sc, .slice da x.d.length dc] 25)).heap.size = w.heap.size + 1) := hid_mk (by simp)
  unfold snapV
  go_enter Tryz.func8, Tryz.ntmps8
  go_wp2_with fail
  generalize w.alloc (.cells #[.int .i64 x.i, .int .i64 x.t, .slice sa x.s.length sc, .slice da x.d.length dc] 25) = w0 at *
  rw [← HB.out]
  have HC : ∀ W, w0.grownBy W none → W.cell? ⟨w.heap.size, 0, none⟩ = some (.int .i64 x.i) ∧ W.cell? ⟨w.heap.size, 1, none⟩ = some (.int .i64 x.t) ∧ W.cell? ⟨w.heap.size, 2, none⟩ = some (.slice sa x.s.length sc) ∧ W.cell? ⟨w.heap.size, 3, none⟩ = some (.slice da x.d.length dc) := fun W hW => by
    have k := V.Blk.kept HF.out hW (by simp)
    exact ⟨by rw [k.cell]; rfl, by rw [k.cell]; rfl, by rw [k.cell]; rfl, by rw [k.cell]; rfl⟩
  have H0 : Hid (RS w0 (w0.alloc (.cells #[.int .i64 0, .int .i64 0, .slice none 0 0, .slice none 0 0] 27)) (.slice none 0 0) [] (.slice none 0 0) [] w0.heap.size) := hid_mk ⟨⟨heap_alloc_new _ _, Nat.le_refl _⟩, OwnI.nil _ _, World.ownsRow_nil _ _ _ _, World.grownBy_alloc _ _ none⟩
  generalize w0.alloc (.cells #[.int .i64 0, .int .i64 0, .slice none 0 0, .slice none 0 0] 27) = w1 at *
  have hgA := H0.out.gr
  refine wp_region_fork (X := fun _ _ _ => False) [(0, true), (1, true), (2, true), (3, true), (5, true), (6, true), (9, true), (10, true)] 6 #[true, true, true, true, false, true, true, false, false, true, true, false, false, false] (cl w0 w1) (by kernel_rfl) (by kernel_rfl) rfl (by kernel_rfl) (fun _ _ _ h => h.elim) (shut_at0 (fun m => grown_trans hgA (grown_drewN _ m none))) ⟨1, rfl⟩ ?_
  clear hgA
  repeat (refine mix_rd1X rfl rfl (fun K hK => ?_); apply Exists.intro; refine ⟨fun W hW => ?_, ?_⟩; (obtain ⟨q0, q1, q2, q3⟩ := HC W hW; go_simp; rfl); (go_simp; refine hK _ _ ?_; clear hK K))
  refine mix_nilX ?_
  have H := H0
  clear H0
  refine fork2 4 8 (by kernel_rfl) ?_ ?_
  · refine rs_new_i H.out rfl rfl (fun W => by go_simp) ?_
    intro K hK g4 W4 H
    go_simp
    refine hK _ _ ?_
    clear hK K
    refine fork2 7 8 (by kernel_rfl) ?_ ?_
    · refine rs_app_i H.out x.s _ hns (HS.out.s.kept HG.out) rfl rfl (.tmp 7) (.tmp 9) rfl rfl rfl ?_
      intro K hK a7 c7 W7 H
      go_simp
      refine hK _ _ ?_
      clear hK K
      refine fork1 8 (by kernel_rfl) ?_
      refine rs_new_b H.out rfl rfl (fun W => by go_simp) ?_
      intro K hK g8 W8 H
      go_simp
      refine hK _ _ ?_
      clear hK K
      refine fork1 11 (by kernel_rfl) ?_
      refine rs_app_b H.out x.d _ hnd (HS.out.d.kept HG.out) rfl rfl (.tmp 11) (.tmp 13) rfl rfl rfl ?_
      intro K hK a11 c11 W11 H
      go_simp
      refine hK _ _ ?_
      clear hK K
      refine fork1 12 (by kernel_rfl) ?_
      refine fork_rd rfl rfl (.agg #[.int .i64 x.i, .int .i64 x.t, .slice a7 x.s.length c7, .slice a11 x.d.length c11]) (fun W hW => by go_simp) ?_
      intro K hK
      go_simp
      refine hK _ _ ?_
      clear hK K
      refine fork1 13 (by kernel_rfl) ?_
      refine rs_store x H.out rfl rfl (.tmp 2) (.tmp 15) rfl rfl rfl ?_
      intro K hK W13 H
      go_simp
      refine hK _ _ ?_
      clear hK K
      refine fork_end (by kernel_rfl) ?_
      rintro W ⟨mz, rfl⟩
      obtain ⟨r1, r2, r3, r4⟩ := H.out
      have gz := grown_drewN W13 mz none
      have H9 := hid_mk (show SB (W13.drewN mz) w0.heap.size x.i x.t (.slice a7 x.s.length c7) (.slice a11 x.d.length c11) ∧ SnapAt (W13.drewN mz) (.slice a7 x.s.length c7) (.slice a11 x.d.length c11) x ∧ w.grownBy (W13.drewN mz) none from ⟨V.Blk.kept r1 gz (by simp), ⟨r2.ints.kept gz, r3.byt.kept gz⟩, grown_trans HG.out (grown_trans r4 gz)⟩)
      clear r1 r2 r3 r4 gz H
      generalize W13.drewN mz = W9 at *
      go_wp2_with fail
      exact bodyPost_ret (ret_snap1 rfl _ _ w0.heap.size x.i x.t _ _ rfl H9.out.1) rfl ⟨_, _, rfl, H9.out.2.1, H9.out.2.2⟩
    · refine rs_new_b H.out rfl rfl (fun W => by go_simp) ?_
      intro K hK g8 W8 H
      go_simp
      refine hK _ _ ?_
      clear hK K
      refine fork1 7 (by kernel_rfl) ?_
      refine rs_app_i H.out x.s _ hns (HS.out.s.kept HG.out) rfl rfl (.tmp 7) (.tmp 9) rfl rfl rfl ?_
      intro K hK a7 c7 W7 H
      go_simp
      refine hK _ _ ?_
      clear hK K
      refine fork1 11 (by kernel_rfl) ?_
      refine rs_app_b H.out x.d _ hnd (HS.out.d.kept HG.out) rfl rfl (.tmp 11) (.tmp 13) rfl rfl rfl ?_
      intro K hK a11 c11 W11 H
      go_simp
      refine hK _ _ ?_
      clear hK K
      refine fork1 12 (by kernel_rfl) ?_
      refine fork_rd rfl rfl (.agg #[.int .i64 x.i, .int .i64 x.t, .slice a7 x.s.length c7, .slice a11 x.d.length c11]) (fun W hW => by go_simp) ?_
      intro K hK
      go_simp
      refine hK _ _ ?_
      clear hK K
      refine fork1 13 (by kernel_rfl) ?_
      refine rs_store x H.out rfl rfl (.tmp 2) (.tmp 15) rfl rfl rfl ?_
      intro K hK W13 H
      go_simp
      refine hK _ _ ?_
      clear hK K
      refine fork_end (by kernel_rfl) ?_
      rintro W ⟨mz, rfl⟩
      obtain ⟨r1, r2, r3, r4⟩ := H.out
      have gz := grown_drewN W13 mz none
      have H9 := hid_mk (show SB (W13.drewN mz) w0.heap.size x.i x.t (.slice a7 x.s.length c7) (.slice a11 x.d.length c11) ∧ SnapAt (W13.drewN mz) (.slice a7 x.s.length c7) (.slice a11 x.d.length c11) x ∧ w.grownBy (W13.drewN mz) none from ⟨V.Blk.kept r1 gz (by simp), ⟨r2.ints.kept gz, r3.byt.kept gz⟩, grown_trans HG.out (grown_trans r4 gz)⟩)
      clear r1 r2 r3 r4 gz H
      generalize W13.drewN mz = W9 at *
      go_wp2_with fail
      exact bodyPost_ret (ret_snap1 rfl _ _ w0.heap.size x.i x.t _ _ rfl H9.out.1) rfl ⟨_, _, rfl, H9.out.2.1, H9.out.2.2⟩
  · refine rs_new_b H.out rfl rfl (fun W => by go_simp) ?_
    intro K hK g8 W8 H
    go_simp
    refine hK _ _ ?_
    clear hK K
    refine fork1 4 (by kernel_rfl) ?_
    refine rs_new_i H.out rfl rfl (fun W => by go_simp) ?_
    intro K hK g4 W4 H
    go_simp
    refine hK _ _ ?_
    clear hK K
    refine fork1 7 (by kernel_rfl) ?_
    refine rs_app_i H.out x.s _ hns (HS.out.s.kept HG.out) rfl rfl (.tmp 7) (.tmp 9) rfl rfl rfl ?_
    intro K hK a7 c7 W7 H
    go_simp
    refine hK _ _ ?_
    clear hK K
    refine fork1 11 (by kernel_rfl) ?_
    refine rs_app_b H.out x.d _ hnd (HS.out.d.kept HG.out) rfl rfl (.tmp 11) (.tmp 13) rfl rfl rfl ?_
    intro K hK a11 c11 W11 H
    go_simp
    refine hK _ _ ?_
    clear hK K
    refine fork1 12 (by kernel_rfl) ?_
    refine fork_rd rfl rfl (.agg #[.int .i64 x.i, .int .i64 x.t, .slice a7 x.s.length c7, .slice a11 x.d.length c11]) (fun W hW => by go_simp) ?_
    intro K hK
    go_simp
    refine hK _ _ ?_
    clear hK K
    refine fork1 13 (by kernel_rfl) ?_
    refine rs_store x H.out rfl rfl (.tmp 2) (.tmp 15) rfl rfl rfl ?_
    intro K hK W13 H
    go_simp
    refine hK _ _ ?_
    clear hK K
    refine fork_end (by kernel_rfl) ?_
    rintro W ⟨mz, rfl⟩
    obtain ⟨r1, r2, r3, r4⟩ := H.out
    have gz := grown_drewN W13 mz none
    have H9 := hid_mk (show SB (W13.drewN mz) w0.heap.size x.i x.t (.slice a7 x.s.length c7) (.slice a11 x.d.length c11) ∧ SnapAt (W13.drewN mz) (.slice a7 x.s.length c7) (.slice a11 x.d.length c11) x ∧ w.grownBy (W13.drewN mz) none from ⟨V.Blk.kept r1 gz (by simp), ⟨r2.ints.kept gz, r3.byt.kept gz⟩, grown_trans HG.out (grown_trans r4 gz)⟩)
    clear r1 r2 r3 r4 gz H
    generalize W13.drewN mz = W9 at *
    go_wp2_with fail
    exact bodyPost_ret (ret_snap1 rfl _ _ w0.heap.size x.i x.t _ _ rfl H9.out.1) rfl ⟨_, _, rfl, H9.out.2.1, H9.out.2.2⟩

end Go.Proofs.YtmlppjmpoanlkaaGreatDoor.W
