/- Own. -/
import Derived.Test.YtliefofdlpljaaaDoorKc
namespace Go.Proofs.YtliefofdlpljaaaDoor
open Go.RowKit Go.Maps
set_option linter.unusedVariables false
set_option linter.unusedSimpArgs false

theorem msg_laid {W : World} {g : Nat} {t : TypeId} (hb : W.heap[g]? = some (.cells zeroM t (0, 0))) (m : Msg) (ev sv dv : Value) : MB ((((((((((((W.setCell ⟨g, 0, none⟩ (.int .i64 m.kind)).setCell ⟨g, 1, none⟩ (.int .i64 m.frm)).setCell ⟨g, 2, none⟩ (.int .i64 m.dst)).setCell ⟨g, 3, none⟩ (.int .i64 m.term)).setCell ⟨g, 4, none⟩ (.int .i64 m.a)).setCell ⟨g, 5, none⟩ (.int .i64 m.b)).setCell ⟨g, 6, none⟩ (.int .i64 m.c)).setCell ⟨g, 7, none⟩ (.int .i64 m.d)).setCell ⟨g, 8, none⟩ (.bool m.yes)).setCell ⟨g, 9, none⟩ (ev)).setCell ⟨g, 10, none⟩ (sv)).setCell ⟨g, 11, none⟩ (dv)) t g m ev sv dv := by
  unfold MB msgCells
  simp [World.setCell, Array.getElem?_modify, hb, zeroM]
theorem grown_set {W W1 : World} {g i : Nat} {v : Value} (h : W.grownBy W1 (some g)) : W.grownBy (W1.setCell ⟨g, i, none⟩ v) (some g) := grown_trans h (grown_setCell _ _ _ _)
theorem grown_msg (W : World) (g : Nat) (m : Msg) (ev sv dv : Value) : W.grownBy ((((((((((((W.setCell ⟨g, 0, none⟩ (.int .i64 m.kind)).setCell ⟨g, 1, none⟩ (.int .i64 m.frm)).setCell ⟨g, 2, none⟩ (.int .i64 m.dst)).setCell ⟨g, 3, none⟩ (.int .i64 m.term)).setCell ⟨g, 4, none⟩ (.int .i64 m.a)).setCell ⟨g, 5, none⟩ (.int .i64 m.b)).setCell ⟨g, 6, none⟩ (.int .i64 m.c)).setCell ⟨g, 7, none⟩ (.int .i64 m.d)).setCell ⟨g, 8, none⟩ (.bool m.yes)).setCell ⟨g, 9, none⟩ (ev)).setCell ⟨g, 10, none⟩ (sv)).setCell ⟨g, 11, none⟩ (dv)) (some g) := by
  exact grown_set (grown_set (grown_set (grown_set (grown_set (grown_set (grown_set (grown_set (grown_set (grown_set (grown_set (grown_set (grown_refl _ _))))))))))))
theorem store27 {o : Oper} {a : Act} (m : Msg) (g : Nat) {a0 a1 a2 : Option Addr} {n0 n1 n2 c0 c1 c2 : Nat} (s y : Operand) (hop : o.op = .store 27 s y) (hs : a.eval s = .pointer (some ⟨g, 0, none⟩)) (hy : a.eval y = .agg (msgCells m (.slice a0 n0 c0) (.slice a1 n1 c1) (.slice a2 n2 c2))) (W : World) (hb : W.heap[g]? = some (.cells zeroM 27 (0, 0))) :
    ∃ W', (execOp a.eval o).run Tryd.prog W = .ok .skip W' ∧ MB W' 27 g m (.slice a0 n0 c0) (.slice a1 n1 c1) (.slice a2 n2 c2) ∧ W.grownBy W' (some g) := by
  have hz : ∀ i, W.frozen? ⟨g, i, none⟩ = false := fun i => by simp [World.frozen?, hb]
  have hc : ∀ i, W.cell? ⟨g, i, none⟩ = zeroM[i]? := fun i => cell_of_row _ _ _ _ _ _ hb
  have h0 := hc 0
  have h1 := hc 1
  have h2 := hc 2
  have h3 := hc 3
  have h4 := hc 4
  have h5 := hc 5
  have h6 := hc 6
  have h7 := hc 7
  have h8 := hc 8
  have h9 := hc 9
  have h10 := hc 10
  have h11 := hc 11
  clear hc
  simp only [zeroM, List.getElem?_toArray, List.getElem?_cons_zero, List.getElem?_cons_succ] at h0 h1 h2 h3 h4 h5 h6 h7 h8 h9 h10 h11
  refine ⟨_, ?_, msg_laid hb m _ _ _, grown_msg W g m _ _ _⟩
  simp only [execOp, hop, hs, hy]
  simp [msgCells, go_sem, h0, h1, h2, h3, h4, h5, h6, h7, h8, h9, h10, h11, hz]
theorem load27 (w : World) (t : TypeId) (b : Nat) (m : Msg) (ev sv dv : Value) (h : MB w t b m ev sv dv) : (loadVar 27 ⟨b, 0, none⟩).run Tryd.prog w = .ok (.agg (msgCells m ev sv dv)) w := by
  obtain ⟨r8, r9, r10, r11, _⟩ := h.rest
  have h0 := h.num 0 _ rfl
  have h1 := h.num 1 _ rfl
  have h2 := h.num 2 _ rfl
  have h3 := h.num 3 _ rfl
  have h4 := h.num 4 _ rfl
  have h5 := h.num 5 _ rfl
  have h6 := h.num 6 _ rfl
  have h7 := h.num 7 _ rfl
  simp [loadVar, go_sem, h0, h1, h2, h3, h4, h5, h6, h7, r8, r9, r10, r11, msgCells]
theorem ret_msg {fn : Func} {p : Tmp} (h : fn.results = #[.cell p 27]) (tmps : Array Value) (w : World) (b : Nat) (m : Msg) (ev sv dv : Value) (hp : tmps.getD p undef = .pointer (some ⟨b, 0, none⟩)) (hb : MB w 27 b m ev sv dv) :
    (results fn tmps).run Tryd.prog w = .ok (.agg (msgCells m ev sv dv)) w := by
  have ha : (asAddr (.pointer (some ⟨b, 0, none⟩))).run Tryd.prog w = .ok ⟨b, 0, none⟩ w := by simp [asAddr]
  rw [results_cell1 h, hp, ha]
  simp only [Result.andThen]
  rw [load27 w 27 b m ev sv dv hb]
theorem EO.lower {w w0 W : World} {v : Value} {es : List (Ent × Value)} (h : EO w0 W v es) (hg : w.grownBy w0 none) : EO w W v es := by
  refine ⟨⟨h.row.1, ?_⟩, fun p hp => ⟨(h.own p hp).1.base hg.size, (h.own p hp).2⟩, grown_trans hg h.gr⟩
  rcases h.row.2 with hn | ⟨g, cap, cur, hv, hb, rest⟩
  · exact .inl hn
  · exact .inr ⟨g, cap, cur, hv, Nat.le_trans hg.size hb, rest⟩
theorem rs_store {X : List PanicEntry → List Deferred → World → Prop} {ops : Array Oper} {K : Act → Cl → Prop} {a : Act} {i : Nat} {o : Oper} {w0 w1 : World} {iv bv : Value} {m : Msg} {g : Nat} (h : RS w0 w1 iv m.srv bv m.data (some g)) (ho : ops[i]? = some o) (hw : Region.wanted o (yielded ops a.tmps) = true)
    (hrun : ∀ W : World, W.heap[g]? = some (.cells zeroM 27 (0, 0)) → ∃ W', (execOp a.eval o).run Tryd.prog W = .ok .skip W' ∧ MB W' 27 g m (.slice none 0 0) iv bv ∧ W.grownBy W' (some g))
    (hc : ∀ K' : Act → Cl → Prop, (∀ a C, K a C → K' a C) → ∀ W', Hid (OM w0 W' m g (.slice none 0 0) iv bv) → K' (a.put o.dst undef) (cl w0 W')) : mxOpX Tryd.prog X ops i K a (cl w0 w1) := by
  unfold mxOpX
  simp only [ho, hw, if_true]
  refine .inr fun W hW => ?_
  obtain ⟨n, rfl⟩ := hW
  have hk := h.kept (drawn w1 n)
  obtain ⟨hb, hlo⟩ := hk.p g rfl
  obtain ⟨W', hr, hm, hg⟩ := hrun _ hb
  rw [hr]
  have hgr := grown_new hk.gr hg hlo
  exact cl_behind hgr (fun _ h => h) (hc K (fun _ _ h => h) W' (hid_mk ⟨hm, owns_kept hk.i hg (fun _ _ hh => ne_tag hh hb (by decide)), owns_kept hk.b hg (fun _ _ hh => ne_tag hh hb (by decide)), hlo, hgr⟩))

set_option maxRecDepth 100000 in
set_option maxHeartbeats 8000000 in
theorem ownM_any (m : Msg) (ev sv dv : Value) (w : World) (he : EntsR w ev m.ents) (hs : IntsR w sv m.srv) (hd : Byt w dv m.data) (hne : m.ents.length * 48 ≤ 140737488355328) (hns : m.srv.length ≤ 17592186044416) (hnd : m.data.length ≤ 140737488355328) :
    Calls Tryd.prog 9 #[.agg (msgCells m ev sv dv)] w fun e w' => ∃ ev' sv' dv', e = .returned (.agg (msgCells m ev' sv' dv')) ∧ EntsR w' ev' m.ents ∧ IntsR w' sv' m.srv ∧ Byt w' dv' m.data ∧ w.grownBy w' none := by
  have hle := he.len
  have hls := hs.len
  have hld := hd.len
  have HE := hid_mk he
  have HS := hid_mk hs
  have HD := hid_mk hd
  clear he hs hd
  obtain ⟨ae, ce, rfl⟩ := hle
  obtain ⟨asv, cs, rfl⟩ := hls
  obtain ⟨ad, cd, rfl⟩ := hld
  have HF : Hid (MB ((w.alloc (.cells (msgCells m (.slice ae m.ents.length ce) (.slice asv m.srv.length cs) (.slice ad m.data.length cd)) 26)).alloc (.cells zeroM 27)) 26 w.heap.size m (.slice ae m.ents.length ce) (.slice asv m.srv.length cs) (.slice ad m.data.length cd) ∧ ((w.alloc (.cells (msgCells m (.slice ae m.ents.length ce) (.slice asv m.srv.length cs) (.slice ad m.data.length cd)) 26)).alloc (.cells zeroM 27)).heap[w.heap.size + 1]? = some (.cells zeroM 27 (0, 0)) ∧ w.grownBy ((w.alloc (.cells (msgCells m (.slice ae m.ents.length ce) (.slice asv m.srv.length cs) (.slice ad m.data.length cd)) 26)).alloc (.cells zeroM 27)) none) := hid_mk (by
    have m1 : MB (w.alloc (.cells (msgCells m (.slice ae m.ents.length ce) (.slice asv m.srv.length cs) (.slice ad m.data.length cd)) 26)) 26 w.heap.size m (.slice ae m.ents.length ce) (.slice asv m.srv.length cs) (.slice ad m.data.length cd) := heap_alloc_new w _
    have s1 : (w.alloc (.cells (msgCells m (.slice ae m.ents.length ce) (.slice asv m.srv.length cs) (.slice ad m.data.length cd)) 26)).heap.size = w.heap.size + 1 := by simp
    refine ⟨m1.kept (World.grownBy_alloc _ _ _), ?_, grown_trans (World.grownBy_alloc _ _ _) (World.grownBy_alloc _ _ _)⟩
    rw [← s1]; exact heap_alloc_new _ _)
  unfold msgCells zeroM at HF
  unfold msgCells
  go_enter Tryd.func9, Tryd.ntmps9
  go_wp2_with fail
  generalize ((w.alloc (.cells _ 26)).alloc (.cells _ 27)) = w0 at *
  have HC : ∀ W, w0.grownBy W none → W.cell? ⟨w.heap.size, 0, none⟩ = some (.int .i64 m.kind) ∧ W.cell? ⟨w.heap.size, 1, none⟩ = some (.int .i64 m.frm) ∧ W.cell? ⟨w.heap.size, 2, none⟩ = some (.int .i64 m.dst) ∧ W.cell? ⟨w.heap.size, 3, none⟩ = some (.int .i64 m.term) ∧ W.cell? ⟨w.heap.size, 4, none⟩ = some (.int .i64 m.a) ∧ W.cell? ⟨w.heap.size, 5, none⟩ = some (.int .i64 m.b) ∧ W.cell? ⟨w.heap.size, 6, none⟩ = some (.int .i64 m.c) ∧ W.cell? ⟨w.heap.size, 7, none⟩ = some (.int .i64 m.d) ∧ W.cell? ⟨w.heap.size, 8, none⟩ = some (.bool m.yes) ∧ W.cell? ⟨w.heap.size, 9, none⟩ = some (.slice ae m.ents.length ce) ∧ W.cell? ⟨w.heap.size, 10, none⟩ = some (.slice asv m.srv.length cs) ∧ W.cell? ⟨w.heap.size, 11, none⟩ = some (.slice ad m.data.length cd) := fun W hW => by
    have k := HF.out.1.kept hW
    obtain ⟨r8, r9, r10, r11, _⟩ := k.rest
    exact ⟨k.num 0 _ rfl, k.num 1 _ rfl, k.num 2 _ rfl, k.num 3 _ rfl, k.num 4 _ rfl, k.num 5 _ rfl, k.num 6 _ rfl, k.num 7 _ rfl, r8, r9, r10, r11⟩
  have HG := hid_mk HF.out.2.2
  go_cut [3] (fun p W => ∃ g sv' dv', p = .pointer (some ⟨g, 0, none⟩) ∧ Hid (OM w0 W m g (.slice none 0 0) sv' dv'))
  case first =>
    refine wp_region_fork (X := fun _ _ _ => False) [(0, true), (1, true), (2, true), (3, true), (4, true), (5, true), (6, true), (7, true), (8, true), (9, true), (10, true), (11, true), (12, true), (13, true), (14, true), (15, true), (16, true), (17, true), (19, true), (20, true), (23, true), (24, true)] 7 #[true, true, true, true, true, true, true, true, true, true, true, true, true, true, true, true, true, true, false, true, true, false, false, true, true, false, false, false, false] (cl w0 w0) (by kernel_rfl) (by kernel_rfl) rfl (by kernel_rfl) (fun _ _ _ h => h.elim) (shut_at0 (drawn w0)) ⟨1, rfl⟩ ?_
    repeat (refine mix_rd1X rfl rfl (fun K hK => ?_); apply Exists.intro; refine ⟨fun W hW => ?_, ?_⟩; (obtain ⟨q0, q1, q2, q3, q4, q5, q6, q7, q8, q9, q10, q11⟩ := HC W hW; go_simp; rfl); (go_simp; refine hK _ _ ?_; clear hK K))
    refine mix_nilX ?_
    have H : Hid (RS w0 w0 (.slice none 0 0) [] (.slice none 0 0) [] none) := hid_mk ⟨OwnI.nil _ _, World.ownsRow_nil _ _ _ _, fun g e => (by cases e), grown_refl _ _⟩
    refine fork3 18 22 27 (by kernel_rfl) ?_ ?_ ?_
    · refine rs_new_i H.out rfl rfl (fun W => by go_simp) ?_
      intro K hK g18 W18 H
      go_simp
      refine hK _ _ ?_
      clear hK K
      refine fork3 21 22 27 (by kernel_rfl) ?_ ?_ ?_
      · refine rs_app_i H.out m.srv _ hns (HS.out.kept HG.out) rfl rfl (.tmp 23) (.tmp 25) rfl rfl rfl ?_
        intro K hK a21 c21 W21 H
        go_simp
        refine hK _ _ ?_
        clear hK K
        refine fork2 22 27 (by kernel_rfl) ?_ ?_
        · refine rs_new_b H.out rfl rfl (fun W => by go_simp) ?_
          intro K hK g22 W22 H
          go_simp
          refine hK _ _ ?_
          clear hK K
          refine fork2 25 27 (by kernel_rfl) ?_ ?_
          · refine rs_app_b H.out m.data _ hnd (HD.out.kept HG.out) rfl rfl (.tmp 27) (.tmp 29) rfl rfl rfl ?_
            intro K hK a25 c25 W25 H
            go_simp
            refine hK _ _ ?_
            clear hK K
            refine fork2 26 27 (by kernel_rfl) ?_ ?_
            · refine fork_rd rfl rfl (.agg #[.int .i64 m.kind, .int .i64 m.frm, .int .i64 m.dst, .int .i64 m.term, .int .i64 m.a, .int .i64 m.b, .int .i64 m.c, .int .i64 m.d, .bool m.yes, .slice none 0 0, .slice a21 m.srv.length c21, .slice a25 m.data.length c25]) (fun W hW => by go_simp) ?_
              intro K hK
              go_simp
              refine hK _ _ ?_
              clear hK K
              refine fork1 27 (by kernel_rfl) ?_
              refine rs_new_p H.out rfl rfl (fun W => by go_simp; rfl) ?_
              intro K hK g27 W27 H
              go_simp
              refine hK _ _ ?_
              clear hK K
              refine fork1 28 (by kernel_rfl) ?_
              refine rs_store H.out rfl rfl (fun W hW => store27 m g27 (.tmp 3) (.tmp 31) rfl rfl rfl W hW) ?_
              intro K hK W28 H
              go_simp
              refine hK _ _ ?_
              clear hK K
              refine fork_end (by kernel_rfl) ?_
              rintro W ⟨mz, rfl⟩
              go_wp2_with fail
              go_meet
              case rel => exact ⟨_, _, _, rfl, hid_mk (H.out.kept (drawn _ mz))⟩
            · refine rs_new_p H.out rfl rfl (fun W => by go_simp; rfl) ?_
              intro K hK g27 W27 H
              go_simp
              refine hK _ _ ?_
              clear hK K
              refine fork1 26 (by kernel_rfl) ?_
              refine fork_rd rfl rfl (.agg #[.int .i64 m.kind, .int .i64 m.frm, .int .i64 m.dst, .int .i64 m.term, .int .i64 m.a, .int .i64 m.b, .int .i64 m.c, .int .i64 m.d, .bool m.yes, .slice none 0 0, .slice a21 m.srv.length c21, .slice a25 m.data.length c25]) (fun W hW => by go_simp) ?_
              intro K hK
              go_simp
              refine hK _ _ ?_
              clear hK K
              refine fork1 28 (by kernel_rfl) ?_
              refine rs_store H.out rfl rfl (fun W hW => store27 m g27 (.tmp 3) (.tmp 31) rfl rfl rfl W hW) ?_
              intro K hK W28 H
              go_simp
              refine hK _ _ ?_
              clear hK K
              refine fork_end (by kernel_rfl) ?_
              rintro W ⟨mz, rfl⟩
              go_wp2_with fail
              go_meet
              case rel => exact ⟨_, _, _, rfl, hid_mk (H.out.kept (drawn _ mz))⟩
          · refine rs_new_p H.out rfl rfl (fun W => by go_simp; rfl) ?_
            intro K hK g27 W27 H
            go_simp
            refine hK _ _ ?_
            clear hK K
            refine fork1 25 (by kernel_rfl) ?_
            refine rs_app_b H.out m.data _ hnd (HD.out.kept HG.out) rfl rfl (.tmp 27) (.tmp 29) rfl rfl rfl ?_
            intro K hK a25 c25 W25 H
            go_simp
            refine hK _ _ ?_
            clear hK K
            refine fork1 26 (by kernel_rfl) ?_
            refine fork_rd rfl rfl (.agg #[.int .i64 m.kind, .int .i64 m.frm, .int .i64 m.dst, .int .i64 m.term, .int .i64 m.a, .int .i64 m.b, .int .i64 m.c, .int .i64 m.d, .bool m.yes, .slice none 0 0, .slice a21 m.srv.length c21, .slice a25 m.data.length c25]) (fun W hW => by go_simp) ?_
            intro K hK
            go_simp
            refine hK _ _ ?_
            clear hK K
            refine fork1 28 (by kernel_rfl) ?_
            refine rs_store H.out rfl rfl (fun W hW => store27 m g27 (.tmp 3) (.tmp 31) rfl rfl rfl W hW) ?_
            intro K hK W28 H
            go_simp
            refine hK _ _ ?_
            clear hK K
            refine fork_end (by kernel_rfl) ?_
            rintro W ⟨mz, rfl⟩
            go_wp2_with fail
            go_meet
            case rel => exact ⟨_, _, _, rfl, hid_mk (H.out.kept (drawn _ mz))⟩
        · refine rs_new_p H.out rfl rfl (fun W => by go_simp; rfl) ?_
          intro K hK g27 W27 H
          go_simp
          refine hK _ _ ?_
          clear hK K
          refine fork1 22 (by kernel_rfl) ?_
          refine rs_new_b H.out rfl rfl (fun W => by go_simp) ?_
          intro K hK g22 W22 H
          go_simp
          refine hK _ _ ?_
          clear hK K
          refine fork1 25 (by kernel_rfl) ?_
          refine rs_app_b H.out m.data _ hnd (HD.out.kept HG.out) rfl rfl (.tmp 27) (.tmp 29) rfl rfl rfl ?_
          intro K hK a25 c25 W25 H
          go_simp
          refine hK _ _ ?_
          clear hK K
          refine fork1 26 (by kernel_rfl) ?_
          refine fork_rd rfl rfl (.agg #[.int .i64 m.kind, .int .i64 m.frm, .int .i64 m.dst, .int .i64 m.term, .int .i64 m.a, .int .i64 m.b, .int .i64 m.c, .int .i64 m.d, .bool m.yes, .slice none 0 0, .slice a21 m.srv.length c21, .slice a25 m.data.length c25]) (fun W hW => by go_simp) ?_
          intro K hK
          go_simp
          refine hK _ _ ?_
          clear hK K
          refine fork1 28 (by kernel_rfl) ?_
          refine rs_store H.out rfl rfl (fun W hW => store27 m g27 (.tmp 3) (.tmp 31) rfl rfl rfl W hW) ?_
          intro K hK W28 H
          go_simp
          refine hK _ _ ?_
          clear hK K
          refine fork_end (by kernel_rfl) ?_
          rintro W ⟨mz, rfl⟩
          go_wp2_with fail
          go_meet
          case rel => exact ⟨_, _, _, rfl, hid_mk (H.out.kept (drawn _ mz))⟩
      · refine rs_new_b H.out rfl rfl (fun W => by go_simp) ?_
        intro K hK g22 W22 H
        go_simp
        refine hK _ _ ?_
        clear hK K
        refine fork2 21 27 (by kernel_rfl) ?_ ?_
        · refine rs_app_i H.out m.srv _ hns (HS.out.kept HG.out) rfl rfl (.tmp 23) (.tmp 25) rfl rfl rfl ?_
          intro K hK a21 c21 W21 H
          go_simp
          refine hK _ _ ?_
          clear hK K
          refine fork2 25 27 (by kernel_rfl) ?_ ?_
          · refine rs_app_b H.out m.data _ hnd (HD.out.kept HG.out) rfl rfl (.tmp 27) (.tmp 29) rfl rfl rfl ?_
            intro K hK a25 c25 W25 H
            go_simp
            refine hK _ _ ?_
            clear hK K
            refine fork2 26 27 (by kernel_rfl) ?_ ?_
            · refine fork_rd rfl rfl (.agg #[.int .i64 m.kind, .int .i64 m.frm, .int .i64 m.dst, .int .i64 m.term, .int .i64 m.a, .int .i64 m.b, .int .i64 m.c, .int .i64 m.d, .bool m.yes, .slice none 0 0, .slice a21 m.srv.length c21, .slice a25 m.data.length c25]) (fun W hW => by go_simp) ?_
              intro K hK
              go_simp
              refine hK _ _ ?_
              clear hK K
              refine fork1 27 (by kernel_rfl) ?_
              refine rs_new_p H.out rfl rfl (fun W => by go_simp; rfl) ?_
              intro K hK g27 W27 H
              go_simp
              refine hK _ _ ?_
              clear hK K
              refine fork1 28 (by kernel_rfl) ?_
              refine rs_store H.out rfl rfl (fun W hW => store27 m g27 (.tmp 3) (.tmp 31) rfl rfl rfl W hW) ?_
              intro K hK W28 H
              go_simp
              refine hK _ _ ?_
              clear hK K
              refine fork_end (by kernel_rfl) ?_
              rintro W ⟨mz, rfl⟩
              go_wp2_with fail
              go_meet
              case rel => exact ⟨_, _, _, rfl, hid_mk (H.out.kept (drawn _ mz))⟩
            · refine rs_new_p H.out rfl rfl (fun W => by go_simp; rfl) ?_
              intro K hK g27 W27 H
              go_simp
              refine hK _ _ ?_
              clear hK K
              refine fork1 26 (by kernel_rfl) ?_
              refine fork_rd rfl rfl (.agg #[.int .i64 m.kind, .int .i64 m.frm, .int .i64 m.dst, .int .i64 m.term, .int .i64 m.a, .int .i64 m.b, .int .i64 m.c, .int .i64 m.d, .bool m.yes, .slice none 0 0, .slice a21 m.srv.length c21, .slice a25 m.data.length c25]) (fun W hW => by go_simp) ?_
              intro K hK
              go_simp
              refine hK _ _ ?_
              clear hK K
              refine fork1 28 (by kernel_rfl) ?_
              refine rs_store H.out rfl rfl (fun W hW => store27 m g27 (.tmp 3) (.tmp 31) rfl rfl rfl W hW) ?_
              intro K hK W28 H
              go_simp
              refine hK _ _ ?_
              clear hK K
              refine fork_end (by kernel_rfl) ?_
              rintro W ⟨mz, rfl⟩
              go_wp2_with fail
              go_meet
              case rel => exact ⟨_, _, _, rfl, hid_mk (H.out.kept (drawn _ mz))⟩
          · refine rs_new_p H.out rfl rfl (fun W => by go_simp; rfl) ?_
            intro K hK g27 W27 H
            go_simp
            refine hK _ _ ?_
            clear hK K
            refine fork1 25 (by kernel_rfl) ?_
            refine rs_app_b H.out m.data _ hnd (HD.out.kept HG.out) rfl rfl (.tmp 27) (.tmp 29) rfl rfl rfl ?_
            intro K hK a25 c25 W25 H
            go_simp
            refine hK _ _ ?_
            clear hK K
            refine fork1 26 (by kernel_rfl) ?_
            refine fork_rd rfl rfl (.agg #[.int .i64 m.kind, .int .i64 m.frm, .int .i64 m.dst, .int .i64 m.term, .int .i64 m.a, .int .i64 m.b, .int .i64 m.c, .int .i64 m.d, .bool m.yes, .slice none 0 0, .slice a21 m.srv.length c21, .slice a25 m.data.length c25]) (fun W hW => by go_simp) ?_
            intro K hK
            go_simp
            refine hK _ _ ?_
            clear hK K
            refine fork1 28 (by kernel_rfl) ?_
            refine rs_store H.out rfl rfl (fun W hW => store27 m g27 (.tmp 3) (.tmp 31) rfl rfl rfl W hW) ?_
            intro K hK W28 H
            go_simp
            refine hK _ _ ?_
            clear hK K
            refine fork_end (by kernel_rfl) ?_
            rintro W ⟨mz, rfl⟩
            go_wp2_with fail
            go_meet
            case rel => exact ⟨_, _, _, rfl, hid_mk (H.out.kept (drawn _ mz))⟩
        · refine rs_new_p H.out rfl rfl (fun W => by go_simp; rfl) ?_
          intro K hK g27 W27 H
          go_simp
          refine hK _ _ ?_
          clear hK K
          refine fork1 21 (by kernel_rfl) ?_
          refine rs_app_i H.out m.srv _ hns (HS.out.kept HG.out) rfl rfl (.tmp 23) (.tmp 25) rfl rfl rfl ?_
          intro K hK a21 c21 W21 H
          go_simp
          refine hK _ _ ?_
          clear hK K
          refine fork1 25 (by kernel_rfl) ?_
          refine rs_app_b H.out m.data _ hnd (HD.out.kept HG.out) rfl rfl (.tmp 27) (.tmp 29) rfl rfl rfl ?_
          intro K hK a25 c25 W25 H
          go_simp
          refine hK _ _ ?_
          clear hK K
          refine fork1 26 (by kernel_rfl) ?_
          refine fork_rd rfl rfl (.agg #[.int .i64 m.kind, .int .i64 m.frm, .int .i64 m.dst, .int .i64 m.term, .int .i64 m.a, .int .i64 m.b, .int .i64 m.c, .int .i64 m.d, .bool m.yes, .slice none 0 0, .slice a21 m.srv.length c21, .slice a25 m.data.length c25]) (fun W hW => by go_simp) ?_
          intro K hK
          go_simp
          refine hK _ _ ?_
          clear hK K
          refine fork1 28 (by kernel_rfl) ?_
          refine rs_store H.out rfl rfl (fun W hW => store27 m g27 (.tmp 3) (.tmp 31) rfl rfl rfl W hW) ?_
          intro K hK W28 H
          go_simp
          refine hK _ _ ?_
          clear hK K
          refine fork_end (by kernel_rfl) ?_
          rintro W ⟨mz, rfl⟩
          go_wp2_with fail
          go_meet
          case rel => exact ⟨_, _, _, rfl, hid_mk (H.out.kept (drawn _ mz))⟩
      · refine rs_new_p H.out rfl rfl (fun W => by go_simp; rfl) ?_
        intro K hK g27 W27 H
        go_simp
        refine hK _ _ ?_
        clear hK K
        refine fork2 21 22 (by kernel_rfl) ?_ ?_
        · refine rs_app_i H.out m.srv _ hns (HS.out.kept HG.out) rfl rfl (.tmp 23) (.tmp 25) rfl rfl rfl ?_
          intro K hK a21 c21 W21 H
          go_simp
          refine hK _ _ ?_
          clear hK K
          refine fork1 22 (by kernel_rfl) ?_
          refine rs_new_b H.out rfl rfl (fun W => by go_simp) ?_
          intro K hK g22 W22 H
          go_simp
          refine hK _ _ ?_
          clear hK K
          refine fork1 25 (by kernel_rfl) ?_
          refine rs_app_b H.out m.data _ hnd (HD.out.kept HG.out) rfl rfl (.tmp 27) (.tmp 29) rfl rfl rfl ?_
          intro K hK a25 c25 W25 H
          go_simp
          refine hK _ _ ?_
          clear hK K
          refine fork1 26 (by kernel_rfl) ?_
          refine fork_rd rfl rfl (.agg #[.int .i64 m.kind, .int .i64 m.frm, .int .i64 m.dst, .int .i64 m.term, .int .i64 m.a, .int .i64 m.b, .int .i64 m.c, .int .i64 m.d, .bool m.yes, .slice none 0 0, .slice a21 m.srv.length c21, .slice a25 m.data.length c25]) (fun W hW => by go_simp) ?_
          intro K hK
          go_simp
          refine hK _ _ ?_
          clear hK K
          refine fork1 28 (by kernel_rfl) ?_
          refine rs_store H.out rfl rfl (fun W hW => store27 m g27 (.tmp 3) (.tmp 31) rfl rfl rfl W hW) ?_
          intro K hK W28 H
          go_simp
          refine hK _ _ ?_
          clear hK K
          refine fork_end (by kernel_rfl) ?_
          rintro W ⟨mz, rfl⟩
          go_wp2_with fail
          go_meet
          case rel => exact ⟨_, _, _, rfl, hid_mk (H.out.kept (drawn _ mz))⟩
        · refine rs_new_b H.out rfl rfl (fun W => by go_simp) ?_
          intro K hK g22 W22 H
          go_simp
          refine hK _ _ ?_
          clear hK K
          refine fork1 21 (by kernel_rfl) ?_
          refine rs_app_i H.out m.srv _ hns (HS.out.kept HG.out) rfl rfl (.tmp 23) (.tmp 25) rfl rfl rfl ?_
          intro K hK a21 c21 W21 H
          go_simp
          refine hK _ _ ?_
          clear hK K
          refine fork1 25 (by kernel_rfl) ?_
          refine rs_app_b H.out m.data _ hnd (HD.out.kept HG.out) rfl rfl (.tmp 27) (.tmp 29) rfl rfl rfl ?_
          intro K hK a25 c25 W25 H
          go_simp
          refine hK _ _ ?_
          clear hK K
          refine fork1 26 (by kernel_rfl) ?_
          refine fork_rd rfl rfl (.agg #[.int .i64 m.kind, .int .i64 m.frm, .int .i64 m.dst, .int .i64 m.term, .int .i64 m.a, .int .i64 m.b, .int .i64 m.c, .int .i64 m.d, .bool m.yes, .slice none 0 0, .slice a21 m.srv.length c21, .slice a25 m.data.length c25]) (fun W hW => by go_simp) ?_
          intro K hK
          go_simp
          refine hK _ _ ?_
          clear hK K
          refine fork1 28 (by kernel_rfl) ?_
          refine rs_store H.out rfl rfl (fun W hW => store27 m g27 (.tmp 3) (.tmp 31) rfl rfl rfl W hW) ?_
          intro K hK W28 H
          go_simp
          refine hK _ _ ?_
          clear hK K
          refine fork_end (by kernel_rfl) ?_
          rintro W ⟨mz, rfl⟩
          go_wp2_with fail
          go_meet
          case rel => exact ⟨_, _, _, rfl, hid_mk (H.out.kept (drawn _ mz))⟩
    · refine rs_new_b H.out rfl rfl (fun W => by go_simp) ?_
      intro K hK g22 W22 H
      go_simp
      refine hK _ _ ?_
      clear hK K
      refine fork2 18 27 (by kernel_rfl) ?_ ?_
      · refine rs_new_i H.out rfl rfl (fun W => by go_simp) ?_
        intro K hK g18 W18 H
        go_simp
        refine hK _ _ ?_
        clear hK K
        refine fork2 21 27 (by kernel_rfl) ?_ ?_
        · refine rs_app_i H.out m.srv _ hns (HS.out.kept HG.out) rfl rfl (.tmp 23) (.tmp 25) rfl rfl rfl ?_
          intro K hK a21 c21 W21 H
          go_simp
          refine hK _ _ ?_
          clear hK K
          refine fork2 25 27 (by kernel_rfl) ?_ ?_
          · refine rs_app_b H.out m.data _ hnd (HD.out.kept HG.out) rfl rfl (.tmp 27) (.tmp 29) rfl rfl rfl ?_
            intro K hK a25 c25 W25 H
            go_simp
            refine hK _ _ ?_
            clear hK K
            refine fork2 26 27 (by kernel_rfl) ?_ ?_
            · refine fork_rd rfl rfl (.agg #[.int .i64 m.kind, .int .i64 m.frm, .int .i64 m.dst, .int .i64 m.term, .int .i64 m.a, .int .i64 m.b, .int .i64 m.c, .int .i64 m.d, .bool m.yes, .slice none 0 0, .slice a21 m.srv.length c21, .slice a25 m.data.length c25]) (fun W hW => by go_simp) ?_
              intro K hK
              go_simp
              refine hK _ _ ?_
              clear hK K
              refine fork1 27 (by kernel_rfl) ?_
              refine rs_new_p H.out rfl rfl (fun W => by go_simp; rfl) ?_
              intro K hK g27 W27 H
              go_simp
              refine hK _ _ ?_
              clear hK K
              refine fork1 28 (by kernel_rfl) ?_
              refine rs_store H.out rfl rfl (fun W hW => store27 m g27 (.tmp 3) (.tmp 31) rfl rfl rfl W hW) ?_
              intro K hK W28 H
              go_simp
              refine hK _ _ ?_
              clear hK K
              refine fork_end (by kernel_rfl) ?_
              rintro W ⟨mz, rfl⟩
              go_wp2_with fail
              go_meet
              case rel => exact ⟨_, _, _, rfl, hid_mk (H.out.kept (drawn _ mz))⟩
            · refine rs_new_p H.out rfl rfl (fun W => by go_simp; rfl) ?_
              intro K hK g27 W27 H
              go_simp
              refine hK _ _ ?_
              clear hK K
              refine fork1 26 (by kernel_rfl) ?_
              refine fork_rd rfl rfl (.agg #[.int .i64 m.kind, .int .i64 m.frm, .int .i64 m.dst, .int .i64 m.term, .int .i64 m.a, .int .i64 m.b, .int .i64 m.c, .int .i64 m.d, .bool m.yes, .slice none 0 0, .slice a21 m.srv.length c21, .slice a25 m.data.length c25]) (fun W hW => by go_simp) ?_
              intro K hK
              go_simp
              refine hK _ _ ?_
              clear hK K
              refine fork1 28 (by kernel_rfl) ?_
              refine rs_store H.out rfl rfl (fun W hW => store27 m g27 (.tmp 3) (.tmp 31) rfl rfl rfl W hW) ?_
              intro K hK W28 H
              go_simp
              refine hK _ _ ?_
              clear hK K
              refine fork_end (by kernel_rfl) ?_
              rintro W ⟨mz, rfl⟩
              go_wp2_with fail
              go_meet
              case rel => exact ⟨_, _, _, rfl, hid_mk (H.out.kept (drawn _ mz))⟩
          · refine rs_new_p H.out rfl rfl (fun W => by go_simp; rfl) ?_
            intro K hK g27 W27 H
            go_simp
            refine hK _ _ ?_
            clear hK K
            refine fork1 25 (by kernel_rfl) ?_
            refine rs_app_b H.out m.data _ hnd (HD.out.kept HG.out) rfl rfl (.tmp 27) (.tmp 29) rfl rfl rfl ?_
            intro K hK a25 c25 W25 H
            go_simp
            refine hK _ _ ?_
            clear hK K
            refine fork1 26 (by kernel_rfl) ?_
            refine fork_rd rfl rfl (.agg #[.int .i64 m.kind, .int .i64 m.frm, .int .i64 m.dst, .int .i64 m.term, .int .i64 m.a, .int .i64 m.b, .int .i64 m.c, .int .i64 m.d, .bool m.yes, .slice none 0 0, .slice a21 m.srv.length c21, .slice a25 m.data.length c25]) (fun W hW => by go_simp) ?_
            intro K hK
            go_simp
            refine hK _ _ ?_
            clear hK K
            refine fork1 28 (by kernel_rfl) ?_
            refine rs_store H.out rfl rfl (fun W hW => store27 m g27 (.tmp 3) (.tmp 31) rfl rfl rfl W hW) ?_
            intro K hK W28 H
            go_simp
            refine hK _ _ ?_
            clear hK K
            refine fork_end (by kernel_rfl) ?_
            rintro W ⟨mz, rfl⟩
            go_wp2_with fail
            go_meet
            case rel => exact ⟨_, _, _, rfl, hid_mk (H.out.kept (drawn _ mz))⟩
        · refine rs_new_p H.out rfl rfl (fun W => by go_simp; rfl) ?_
          intro K hK g27 W27 H
          go_simp
          refine hK _ _ ?_
          clear hK K
          refine fork1 21 (by kernel_rfl) ?_
          refine rs_app_i H.out m.srv _ hns (HS.out.kept HG.out) rfl rfl (.tmp 23) (.tmp 25) rfl rfl rfl ?_
          intro K hK a21 c21 W21 H
          go_simp
          refine hK _ _ ?_
          clear hK K
          refine fork1 25 (by kernel_rfl) ?_
          refine rs_app_b H.out m.data _ hnd (HD.out.kept HG.out) rfl rfl (.tmp 27) (.tmp 29) rfl rfl rfl ?_
          intro K hK a25 c25 W25 H
          go_simp
          refine hK _ _ ?_
          clear hK K
          refine fork1 26 (by kernel_rfl) ?_
          refine fork_rd rfl rfl (.agg #[.int .i64 m.kind, .int .i64 m.frm, .int .i64 m.dst, .int .i64 m.term, .int .i64 m.a, .int .i64 m.b, .int .i64 m.c, .int .i64 m.d, .bool m.yes, .slice none 0 0, .slice a21 m.srv.length c21, .slice a25 m.data.length c25]) (fun W hW => by go_simp) ?_
          intro K hK
          go_simp
          refine hK _ _ ?_
          clear hK K
          refine fork1 28 (by kernel_rfl) ?_
          refine rs_store H.out rfl rfl (fun W hW => store27 m g27 (.tmp 3) (.tmp 31) rfl rfl rfl W hW) ?_
          intro K hK W28 H
          go_simp
          refine hK _ _ ?_
          clear hK K
          refine fork_end (by kernel_rfl) ?_
          rintro W ⟨mz, rfl⟩
          go_wp2_with fail
          go_meet
          case rel => exact ⟨_, _, _, rfl, hid_mk (H.out.kept (drawn _ mz))⟩
      · refine rs_new_p H.out rfl rfl (fun W => by go_simp; rfl) ?_
        intro K hK g27 W27 H
        go_simp
        refine hK _ _ ?_
        clear hK K
        refine fork1 18 (by kernel_rfl) ?_
        refine rs_new_i H.out rfl rfl (fun W => by go_simp) ?_
        intro K hK g18 W18 H
        go_simp
        refine hK _ _ ?_
        clear hK K
        refine fork1 21 (by kernel_rfl) ?_
        refine rs_app_i H.out m.srv _ hns (HS.out.kept HG.out) rfl rfl (.tmp 23) (.tmp 25) rfl rfl rfl ?_
        intro K hK a21 c21 W21 H
        go_simp
        refine hK _ _ ?_
        clear hK K
        refine fork1 25 (by kernel_rfl) ?_
        refine rs_app_b H.out m.data _ hnd (HD.out.kept HG.out) rfl rfl (.tmp 27) (.tmp 29) rfl rfl rfl ?_
        intro K hK a25 c25 W25 H
        go_simp
        refine hK _ _ ?_
        clear hK K
        refine fork1 26 (by kernel_rfl) ?_
        refine fork_rd rfl rfl (.agg #[.int .i64 m.kind, .int .i64 m.frm, .int .i64 m.dst, .int .i64 m.term, .int .i64 m.a, .int .i64 m.b, .int .i64 m.c, .int .i64 m.d, .bool m.yes, .slice none 0 0, .slice a21 m.srv.length c21, .slice a25 m.data.length c25]) (fun W hW => by go_simp) ?_
        intro K hK
        go_simp
        refine hK _ _ ?_
        clear hK K
        refine fork1 28 (by kernel_rfl) ?_
        refine rs_store H.out rfl rfl (fun W hW => store27 m g27 (.tmp 3) (.tmp 31) rfl rfl rfl W hW) ?_
        intro K hK W28 H
        go_simp
        refine hK _ _ ?_
        clear hK K
        refine fork_end (by kernel_rfl) ?_
        rintro W ⟨mz, rfl⟩
        go_wp2_with fail
        go_meet
        case rel => exact ⟨_, _, _, rfl, hid_mk (H.out.kept (drawn _ mz))⟩
    · refine rs_new_p H.out rfl rfl (fun W => by go_simp; rfl) ?_
      intro K hK g27 W27 H
      go_simp
      refine hK _ _ ?_
      clear hK K
      refine fork2 18 22 (by kernel_rfl) ?_ ?_
      · refine rs_new_i H.out rfl rfl (fun W => by go_simp) ?_
        intro K hK g18 W18 H
        go_simp
        refine hK _ _ ?_
        clear hK K
        refine fork2 21 22 (by kernel_rfl) ?_ ?_
        · refine rs_app_i H.out m.srv _ hns (HS.out.kept HG.out) rfl rfl (.tmp 23) (.tmp 25) rfl rfl rfl ?_
          intro K hK a21 c21 W21 H
          go_simp
          refine hK _ _ ?_
          clear hK K
          refine fork1 22 (by kernel_rfl) ?_
          refine rs_new_b H.out rfl rfl (fun W => by go_simp) ?_
          intro K hK g22 W22 H
          go_simp
          refine hK _ _ ?_
          clear hK K
          refine fork1 25 (by kernel_rfl) ?_
          refine rs_app_b H.out m.data _ hnd (HD.out.kept HG.out) rfl rfl (.tmp 27) (.tmp 29) rfl rfl rfl ?_
          intro K hK a25 c25 W25 H
          go_simp
          refine hK _ _ ?_
          clear hK K
          refine fork1 26 (by kernel_rfl) ?_
          refine fork_rd rfl rfl (.agg #[.int .i64 m.kind, .int .i64 m.frm, .int .i64 m.dst, .int .i64 m.term, .int .i64 m.a, .int .i64 m.b, .int .i64 m.c, .int .i64 m.d, .bool m.yes, .slice none 0 0, .slice a21 m.srv.length c21, .slice a25 m.data.length c25]) (fun W hW => by go_simp) ?_
          intro K hK
          go_simp
          refine hK _ _ ?_
          clear hK K
          refine fork1 28 (by kernel_rfl) ?_
          refine rs_store H.out rfl rfl (fun W hW => store27 m g27 (.tmp 3) (.tmp 31) rfl rfl rfl W hW) ?_
          intro K hK W28 H
          go_simp
          refine hK _ _ ?_
          clear hK K
          refine fork_end (by kernel_rfl) ?_
          rintro W ⟨mz, rfl⟩
          go_wp2_with fail
          go_meet
          case rel => exact ⟨_, _, _, rfl, hid_mk (H.out.kept (drawn _ mz))⟩
        · refine rs_new_b H.out rfl rfl (fun W => by go_simp) ?_
          intro K hK g22 W22 H
          go_simp
          refine hK _ _ ?_
          clear hK K
          refine fork1 21 (by kernel_rfl) ?_
          refine rs_app_i H.out m.srv _ hns (HS.out.kept HG.out) rfl rfl (.tmp 23) (.tmp 25) rfl rfl rfl ?_
          intro K hK a21 c21 W21 H
          go_simp
          refine hK _ _ ?_
          clear hK K
          refine fork1 25 (by kernel_rfl) ?_
          refine rs_app_b H.out m.data _ hnd (HD.out.kept HG.out) rfl rfl (.tmp 27) (.tmp 29) rfl rfl rfl ?_
          intro K hK a25 c25 W25 H
          go_simp
          refine hK _ _ ?_
          clear hK K
          refine fork1 26 (by kernel_rfl) ?_
          refine fork_rd rfl rfl (.agg #[.int .i64 m.kind, .int .i64 m.frm, .int .i64 m.dst, .int .i64 m.term, .int .i64 m.a, .int .i64 m.b, .int .i64 m.c, .int .i64 m.d, .bool m.yes, .slice none 0 0, .slice a21 m.srv.length c21, .slice a25 m.data.length c25]) (fun W hW => by go_simp) ?_
          intro K hK
          go_simp
          refine hK _ _ ?_
          clear hK K
          refine fork1 28 (by kernel_rfl) ?_
          refine rs_store H.out rfl rfl (fun W hW => store27 m g27 (.tmp 3) (.tmp 31) rfl rfl rfl W hW) ?_
          intro K hK W28 H
          go_simp
          refine hK _ _ ?_
          clear hK K
          refine fork_end (by kernel_rfl) ?_
          rintro W ⟨mz, rfl⟩
          go_wp2_with fail
          go_meet
          case rel => exact ⟨_, _, _, rfl, hid_mk (H.out.kept (drawn _ mz))⟩
      · refine rs_new_b H.out rfl rfl (fun W => by go_simp) ?_
        intro K hK g22 W22 H
        go_simp
        refine hK _ _ ?_
        clear hK K
        refine fork1 18 (by kernel_rfl) ?_
        refine rs_new_i H.out rfl rfl (fun W => by go_simp) ?_
        intro K hK g18 W18 H
        go_simp
        refine hK _ _ ?_
        clear hK K
        refine fork1 21 (by kernel_rfl) ?_
        refine rs_app_i H.out m.srv _ hns (HS.out.kept HG.out) rfl rfl (.tmp 23) (.tmp 25) rfl rfl rfl ?_
        intro K hK a21 c21 W21 H
        go_simp
        refine hK _ _ ?_
        clear hK K
        refine fork1 25 (by kernel_rfl) ?_
        refine rs_app_b H.out m.data _ hnd (HD.out.kept HG.out) rfl rfl (.tmp 27) (.tmp 29) rfl rfl rfl ?_
        intro K hK a25 c25 W25 H
        go_simp
        refine hK _ _ ?_
        clear hK K
        refine fork1 26 (by kernel_rfl) ?_
        refine fork_rd rfl rfl (.agg #[.int .i64 m.kind, .int .i64 m.frm, .int .i64 m.dst, .int .i64 m.term, .int .i64 m.a, .int .i64 m.b, .int .i64 m.c, .int .i64 m.d, .bool m.yes, .slice none 0 0, .slice a21 m.srv.length c21, .slice a25 m.data.length c25]) (fun W hW => by go_simp) ?_
        intro K hK
        go_simp
        refine hK _ _ ?_
        clear hK K
        refine fork1 28 (by kernel_rfl) ?_
        refine rs_store H.out rfl rfl (fun W hW => store27 m g27 (.tmp 3) (.tmp 31) rfl rfl rfl W hW) ?_
        intro K hK W28 H
        go_simp
        refine hK _ _ ?_
        clear hK K
        refine fork_end (by kernel_rfl) ?_
        rintro W ⟨mz, rfl⟩
        go_wp2_with fail
        go_meet
        case rel => exact ⟨_, _, _, rfl, hid_mk (H.out.kept (drawn _ mz))⟩
  case rest =>
    obtain ⟨g, sv', dv', rfl, H1⟩ := hcut
    rename World => w1
    go_wp2_with fail
    go_loopw [4] (fun iv W => ∃ k : Nat, k ≤ m.ents.length ∧ iv = .int .i64 k ∧ Hid (OE w0 W m g sv' dv' k)) (fun iv _ => m.ents.length - (intOf iv).toNat)
    case atStart => exact ⟨0, Nat.zero_le _, rfl, hid_mk ⟨_, [], H1.out, EO.nil H1.out.gr, by simp⟩⟩
    case round =>
      obtain ⟨k, hk, rfl, H⟩ := hrel
      rename World => w2
      obtain ⟨ev, es, HO⟩ : ∃ ev es, Hid (SA w0 w2 m g ev sv' dv' es ∧ es.map (·.1) = m.ents.take k) := by
        obtain ⟨ev, es, h1, h2, h3⟩ := H.out
        exact ⟨ev, es, hid_mk ⟨⟨h1, h2⟩, h3⟩⟩
      clear H H1
      have HKE := hid_mk (show es.length = k by
        have := congrArg List.length HO.out.2
        rw [List.length_map, List.length_take] at this
        omega)
      have r9 := (HF.out.1.kept HO.out.1.om.gr).rest.2.1
      by_cases hlt : k < m.ents.length
      · obtain ⟨x, hx⟩ : ∃ x, m.ents[k]? = some x := ⟨m.ents[k], by simp⟩
        obtain ⟨eb, off, hae, hcap, hcs⟩ := (HE.out.kept HG.out).at (by omega)
        obtain ⟨xv, q0, q1, q2, q3, hxb, hxl⟩ := hcs k x hx
        have HX := hid_mk (And.intro hx hxb)
        have HC2 : ∀ W, w0.grownBy W none → W.cell? ⟨w.heap.size, 9, none⟩ = some (.slice ae m.ents.length ce) ∧ W.cell? ⟨eb, off + k * 4, none⟩ = some (.int .i64 x.term) ∧ W.cell? ⟨eb, off + k * 4 + 1, none⟩ = some (.int .i64 x.index) ∧ W.cell? ⟨eb, off + k * 4 + 2, none⟩ = some (.int .i64 x.kind) ∧ W.cell? ⟨eb, off + k * 4 + 3, none⟩ = some xv := fun W hW =>
          ⟨(HF.out.1.kept hW).rest.2.1, hW.cell q0 (by simp), hW.cell q1 (by simp), hW.cell q2 (by simp), hW.cell q3 (by simp)⟩
        clear hx hxb hcs q0 q1 q2 q3
        subst hae
        go_upto_region 5 with fail
        have hl48 : (k + 1) * 48 ≤ 140737488355328 := by omega
        refine wp_region_fork (X := fun _ _ _ => False) [(0, true), (2, true), (3, true), (4, true), (5, true), (6, true)] 6 #[true, false, true, true, true, true, true, false, false, false, false, false] (cl w0 w2) (by kernel_rfl) (by kernel_rfl) rfl (by kernel_rfl) (fun _ _ _ h => h.elim) (shut_at0 (fun n => grown_trans HO.out.1.om.gr (drawn w2 n))) ⟨1, rfl⟩ ?_
        repeat (refine mix_rd1X rfl rfl (fun K hK => ?_); apply Exists.intro; refine ⟨fun W hW => ?_, ?_⟩; (obtain ⟨q0, q1, q2, q3, q4⟩ := HC2 W hW; go_simp; rfl); (go_simp; refine hK _ _ ?_; clear hK K))
        refine mix_nilX ?_
        have H := hid_mk HO.out.1
        refine fork2 1 7 (by kernel_rfl) ?_ ?_
        · refine sa_load H.out rfl rfl (fun W hW => by go_simp) ?_
          intro K hK n1
          go_simp
          refine hK _ _ ?_
          clear hK K
          have H := hid_mk (H.out.kept (drawn _ n1))
          refine fork1 7 (by kernel_rfl) ?_
          refine sa_own H.out x xv HX.out.2 hxl rfl rfl (fun W => by unfold entV; go_simp) ?_
          intro K hK a3 n3 c3 W3 H
          go_simp
          refine hK _ _ ?_
          clear hK K
          refine fork1 8 (by kernel_rfl) ?_
          refine sa_new H.out rfl rfl (fun W => by go_simp) ?_
          intro K hK gb W4 H
          go_simp
          refine hK _ _ ?_
          clear hK K
          refine fork1 9 (by kernel_rfl) ?_
          refine sa_app H.out k HKE.out hxl hl48 rfl rfl (.tmp 40) (.tmp 47) rfl rfl rfl ?_
          intro K hK a5 c5 W5 H
          go_simp
          refine hK _ _ ?_
          clear hK K
          refine fork1 10 (by kernel_rfl) ?_
          refine fork_rd rfl rfl (.pointer (some ⟨g, 9, none⟩)) (fun W hW => by go_simp) ?_
          intro K hK
          go_simp
          refine hK _ _ ?_
          clear hK K
          refine fork1 11 (by kernel_rfl) ?_
          refine sa_store H.out rfl rfl (fun W h9 hz => by go_simp) ?_
          intro K hK W6 H
          go_simp
          refine hK _ _ ?_
          clear hK K
          refine fork_end (by kernel_rfl) ?_
          rintro W ⟨mz, rfl⟩
          go_wp2_with fail
          go_roundw
          case rel =>
            refine ⟨k + 1, by omega, by go_num, hid_mk ⟨_, _, H.out.1.kept (drawn _ mz), H.out.2.kept (drawn _ mz), ?_⟩⟩
            rw [List.map_append, HO.out.2, take_snoc _ k x HX.out.1]
            rfl
          case measure => simp [intOf]; omega
        · refine sa_own H.out x xv HX.out.2 hxl rfl rfl (fun W => by unfold entV; go_simp) ?_
          intro K hK a3 n3 c3 W3 H
          go_simp
          refine hK _ _ ?_
          clear hK K
          refine fork2 1 8 (by kernel_rfl) ?_ ?_
          · refine sa_load H.out.1 rfl rfl (fun W hW => by go_simp) ?_
            intro K hK n1
            go_simp
            refine hK _ _ ?_
            clear hK K
            have H := hid_mk (And.intro (H.out.1.kept (drawn _ n1)) (H.out.2.kept (drawn _ n1) (.inl rfl)))
            refine fork1 8 (by kernel_rfl) ?_
            refine sa_new H.out rfl rfl (fun W => by go_simp) ?_
            intro K hK gb W4 H
            go_simp
            refine hK _ _ ?_
            clear hK K
            refine fork1 9 (by kernel_rfl) ?_
            refine sa_app H.out k HKE.out hxl hl48 rfl rfl (.tmp 40) (.tmp 47) rfl rfl rfl ?_
            intro K hK a5 c5 W5 H
            go_simp
            refine hK _ _ ?_
            clear hK K
            refine fork1 10 (by kernel_rfl) ?_
            refine fork_rd rfl rfl (.pointer (some ⟨g, 9, none⟩)) (fun W hW => by go_simp) ?_
            intro K hK
            go_simp
            refine hK _ _ ?_
            clear hK K
            refine fork1 11 (by kernel_rfl) ?_
            refine sa_store H.out rfl rfl (fun W h9 hz => by go_simp) ?_
            intro K hK W6 H
            go_simp
            refine hK _ _ ?_
            clear hK K
            refine fork_end (by kernel_rfl) ?_
            rintro W ⟨mz, rfl⟩
            go_wp2_with fail
            go_roundw
            case rel =>
              refine ⟨k + 1, by omega, by go_num, hid_mk ⟨_, _, H.out.1.kept (drawn _ mz), H.out.2.kept (drawn _ mz), ?_⟩⟩
              rw [List.map_append, HO.out.2, take_snoc _ k x HX.out.1]
              rfl
            case measure => simp [intOf]; omega
          · refine sa_new H.out rfl rfl (fun W => by go_simp) ?_
            intro K hK gb W4 H
            go_simp
            refine hK _ _ ?_
            clear hK K
            refine fork1 1 (by kernel_rfl) ?_
            refine sa_load H.out.1 rfl rfl (fun W hW => by go_simp) ?_
            intro K hK n1
            go_simp
            refine hK _ _ ?_
            clear hK K
            have H := hid_mk (And.intro (H.out.1.kept (drawn _ n1)) (And.intro (H.out.2.1.kept (drawn _ n1) (.inl rfl)) (((drawn _ n1).block gb (Array.getElem?_eq_some_iff.1 H.out.2.2).1 (by simp)).trans H.out.2.2)))
            refine fork1 9 (by kernel_rfl) ?_
            refine sa_app H.out k HKE.out hxl hl48 rfl rfl (.tmp 40) (.tmp 47) rfl rfl rfl ?_
            intro K hK a5 c5 W5 H
            go_simp
            refine hK _ _ ?_
            clear hK K
            refine fork1 10 (by kernel_rfl) ?_
            refine fork_rd rfl rfl (.pointer (some ⟨g, 9, none⟩)) (fun W hW => by go_simp) ?_
            intro K hK
            go_simp
            refine hK _ _ ?_
            clear hK K
            refine fork1 11 (by kernel_rfl) ?_
            refine sa_store H.out rfl rfl (fun W h9 hz => by go_simp) ?_
            intro K hK W6 H
            go_simp
            refine hK _ _ ?_
            clear hK K
            refine fork_end (by kernel_rfl) ?_
            rintro W ⟨mz, rfl⟩
            go_wp2_with fail
            go_roundw
            case rel =>
              refine ⟨k + 1, by omega, by go_num, hid_mk ⟨_, _, H.out.1.kept (drawn _ mz), H.out.2.kept (drawn _ mz), ?_⟩⟩
              rw [List.map_append, HO.out.2, take_snoc _ k x HX.out.1]
              rfl
            case measure => simp [intOf]; omega
      · have hkn : k = m.ents.length := by omega
        subst hkn
        obtain ⟨a9, n9, c9, rfl⟩ : ∃ a n c, ev = .slice a n c := by
          obtain ⟨a, c, e⟩ := row_shape HO.out.1.eo.row
          exact ⟨a, _, c, e⟩
        obtain ⟨a10, n10, c10, rfl⟩ : ∃ a n c, sv' = .slice a n c := by
          obtain ⟨a, c, e⟩ := row_shape HO.out.1.om.i
          exact ⟨a, _, c, e⟩
        obtain ⟨a11, n11, c11, rfl⟩ : ∃ a n c, dv' = .slice a n c := by
          obtain ⟨a, c, e⟩ := HO.out.1.om.b.len
          exact ⟨a, _, c, e⟩
        obtain ⟨p8, p9, p10, p11, _⟩ := HO.out.1.om.mb.rest
        have p0 := HO.out.1.om.mb.num 0 _ rfl
        have p1 := HO.out.1.om.mb.num 1 _ rfl
        have p2 := HO.out.1.om.mb.num 2 _ rfl
        have p3 := HO.out.1.om.mb.num 3 _ rfl
        have p4 := HO.out.1.om.mb.num 4 _ rfl
        have p5 := HO.out.1.om.mb.num 5 _ rfl
        have p6 := HO.out.1.om.mb.num 6 _ rfl
        have p7 := HO.out.1.om.mb.num 7 _ rfl
        have hb : w2.heap[w.heap.size + 1]? = some (.cells zeroM 27 (0, 0)) := (HO.out.1.om.gr.block _ (Array.getElem?_eq_some_iff.1 HF.out.2.1).1 (by simp)).trans HF.out.2.1
        have HB := hid_mk hb
        have hz : ∀ i, w2.frozen? ⟨w.heap.size + 1, i, none⟩ = false := fun i => by simp [World.frozen?, hb]
        have hc : ∀ i, w2.cell? ⟨w.heap.size + 1, i, none⟩ = zeroM[i]? := fun i => cell_of_row _ _ _ _ _ _ hb
        have z0 := hc 0
        have z1 := hc 1
        have z2 := hc 2
        have z3 := hc 3
        have z4 := hc 4
        have z5 := hc 5
        have z6 := hc 6
        have z7 := hc 7
        have z8 := hc 8
        have z9 := hc 9
        have z10 := hc 10
        have z11 := hc 11
        clear hc hb
        simp only [zeroM, List.getElem?_toArray, List.getElem?_cons_zero, List.getElem?_cons_succ] at z0 z1 z2 z3 z4 z5 z6 z7 z8 z9 z10 z11
        go_wp2_with fail
        have HG2 := hid_mk (grown_msg w2 (w.heap.size + 1) m (.slice a9 n9 c9) (.slice a10 n10 c10) (.slice a11 n11 c11))
        refine bodyPost_ret (ret_msg (fn := Tryd.f9) rfl _ _ (w.heap.size + 1) m _ _ _ rfl (msg_laid HB.out m _ _ _)) rfl ⟨_, _, _, rfl, ?_, ?_, ?_, ?_⟩
        · have := ((HO.out.1.eo.lower HG.out).but HB.out (by decide) (by decide) (by omega) HG2.out).reads
          rw [HO.out.2, List.take_length] at this
          exact this
        · exact OwnI.ints (owns_kept HO.out.1.om.i HG2.out (fun _ _ hh => ne_tag hh HB.out (by decide)))
        · exact Own.byt (owns_kept HO.out.1.om.b HG2.out (fun _ _ hh => ne_tag hh HB.out (by decide)))
        · exact grown_new (grown_trans HG.out HO.out.1.om.gr) HG2.out (by omega)

end Go.Proofs.YtliefofdlpljaaaDoor
