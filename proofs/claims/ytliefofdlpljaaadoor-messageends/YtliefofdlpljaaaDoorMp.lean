/- MessagePuts: its walk. -/
import Derived.Test.YtliefofdlpljaaaDoorAp
import Derived.Test.YtliefofdlpljaaaDoorKe
namespace Go.Proofs.YtliefofdlpljaaaDoor
open Go.RowKit Go.Maps
set_option linter.unusedVariables false
set_option linter.unusedSimpArgs false

theorem MB.all {w : World} {t : TypeId} {b : Nat} {m : Msg} {ev sv dv : Value} (k : MB w t b m ev sv dv) : w.cell? ⟨b, 0, none⟩ = some (.int .i64 m.kind) ∧ w.cell? ⟨b, 1, none⟩ = some (.int .i64 m.frm) ∧ w.cell? ⟨b, 2, none⟩ = some (.int .i64 m.dst) ∧ w.cell? ⟨b, 3, none⟩ = some (.int .i64 m.term) ∧ w.cell? ⟨b, 4, none⟩ = some (.int .i64 m.a) ∧ w.cell? ⟨b, 5, none⟩ = some (.int .i64 m.b) ∧ w.cell? ⟨b, 6, none⟩ = some (.int .i64 m.c) ∧ w.cell? ⟨b, 7, none⟩ = some (.int .i64 m.d) ∧ w.cell? ⟨b, 8, none⟩ = some (.bool m.yes) ∧ w.cell? ⟨b, 9, none⟩ = some ev ∧ w.cell? ⟨b, 10, none⟩ = some sv ∧ w.cell? ⟨b, 11, none⟩ = some dv := by
  obtain ⟨r8, r9, r10, r11, _⟩ := k.rest
  exact ⟨k.num 0 _ rfl, k.num 1 _ rfl, k.num 2 _ rfl, k.num 3 _ rfl, k.num 4 _ rfl, k.num 5 _ rfl, k.num 6 _ rfl, k.num 7 _ rfl, r8, r9, r10, r11⟩
theorem rputM_in (m : Msg) (ev sv dv : Value) (w : World) (h : MsgIn w m ev sv dv) : Calls Tryd.prog 11 #[.agg (msgCells m ev sv dv)] w (OkPost (msgL m) (msgErr m) w) := rputM_any m ev sv dv w h.e h.s h.d (by have := h.ne; omega) (by have := h.ns; omega)

set_option maxRecDepth 100000 in
set_option maxHeartbeats 8000000 in
theorem puts_any (m : Msg) (ev sv dv : Value) (w : World) (h : MsgIn w m ev sv dv) (hsp : Spans w) :
    Calls Tryd.prog 3 #[.agg (msgCells m ev sv dv)] w fun e w' => e = .returned (.bool true) ∧ w.grownBy w' none := by
  have q1 := h.slices
  have HI := hid_mk h
  have HP := hid_mk hsp
  clear h hsp
  obtain ⟨a1, n1, c1, a2, n2, c2, a3, n3, c3, rfl, rfl, rfl⟩ := q1
  have HF : Hid (MB (w.alloc (.cells (msgCells m (.slice a1 n1 c1) (.slice a2 n2 c2) (.slice a3 n3 c3)) 26)) 26 w.heap.size m (.slice a1 n1 c1) (.slice a2 n2 c2) (.slice a3 n3 c3) ∧ w.grownBy (w.alloc (.cells (msgCells m (.slice a1 n1 c1) (.slice a2 n2 c2) (.slice a3 n3 c3)) 26)) none) := hid_mk ⟨heap_alloc_new w _, World.grownBy_alloc _ _ _⟩
  unfold msgCells at HF
  unfold msgCells
  go_enter Tryd.func3, Tryd.ntmps3
  go_wp2_with fail
  generalize (w.alloc (.cells _ 26)) = w1 at *
  refine (ownM_in m _ _ _ w1 (HI.out.kept HF.out.2)).mono ?_
  rintro e w2 ⟨e2, s2, t2, rfl, hi2, hg2⟩
  have q2 := hi2.slices
  have H2 := hid_mk (And.intro hi2 hg2)
  clear hi2 hg2
  obtain ⟨b1, k1, d1, b2, k2, d2, b3, k3, d3, rfl, rfl, rfl⟩ := q2
  have HX : Hid (MB (w2.alloc (.cells (msgCells m (.slice b1 k1 d1) (.slice b2 k2 d2) (.slice b3 k3 d3)) 27)) 27 w2.heap.size m (.slice b1 k1 d1) (.slice b2 k2 d2) (.slice b3 k3 d3) ∧ w2.grownBy (w2.alloc (.cells (msgCells m (.slice b1 k1 d1) (.slice b2 k2 d2) (.slice b3 k3 d3)) 27)) none) := hid_mk ⟨heap_alloc_new w2 _, World.grownBy_alloc _ _ _⟩
  unfold msgCells at HX
  unfold msgCells
  go_wp2_with fail
  generalize (w2.alloc (.cells _ 27)) = w3 at *
  generalize w2.heap.size = g3 at *
  have H3 := hid_mk (And.intro (H2.out.1.kept HX.out.2) (grown_trans H2.out.2 HX.out.2))
  have HX3 := hid_mk HX.out.1
  clear HX H2
  refine (putM_in m _ _ _ w3 H3.out.1 (HP.out.kept (grown_trans HF.out.2 H3.out.2))).mono ?_
  rintro e w4 ⟨a4, c4, rfl, ho4, hg4⟩
  have H4 := hid_mk (And.intro ho4.byt hg4)
  clear ho4 hg4
  obtain ⟨p0, p1, p2, p3, p4, p5, p6, p7, p8, p9, p10, p11⟩ := (HF.out.1.kept (grown_trans H3.out.2 H4.out.2)).all
  generalize hn4 : (msgL m).length = n4 at *
  clear hn4
  go_wp2_with fail
  clear p0 p1 p2 p3 p4 p5 p6 p7 p8 p9 p10 p11
  have HR := hid_mk (rputM_in m _ _ _ w4 (HI.out.kept (grown_trans HF.out.2 (grown_trans H3.out.2 H4.out.2))))
  refine HR.out.mono ?_
  rintro e w5 ⟨a5, c5, rfl, ho5, hg5⟩
  have T4 := (H4.out.1.kept hg5).text
  have T5 := ho5.byt.text
  have G5 := hid_mk (grown_trans H4.out.2 hg5)
  clear ho5 hg5 HR
  generalize hn5 : (msgL m).length = n5 at *
  clear hn5
  generalize (⟨(msgL m).toArray⟩ : ByteArray) = s1 at *
  generalize msgErr m = em at *
  obtain ⟨p0, p1, p2, p3, p4, p5, p6, p7, p8, p9, p10, p11⟩ := (HF.out.1.kept (grown_trans H3.out.2 G5.out)).all
  obtain ⟨z0, z1, z2, z3, z4, z5, z6, z7, z8, z9, z10, z11⟩ := (HX3.out.kept G5.out).all
  go_wp2_with (go_at_call 12; refine (num_any _ _).mono ?_; rintro e wx ⟨rfl, hwx⟩; subst wx)
  clear p0 p1 p2 p3 p4 p5 p6 p7 p8 p9 p10 p11 z0 z1 z2 z3 z4 z5 z6 z7 z8 z9 z10 z11 T4 T5
  refine (sameM_in m m true (by simp) _ _ _ _ _ _ w5 (H3.out.1.kept G5.out) (HI.out.kept (grown_trans HF.out.2 (grown_trans H3.out.2 G5.out)))).mono ?_
  rintro e w6 ⟨rfl, hg6⟩
  have G6 := hid_mk (grown_trans HF.out.2 (grown_trans H3.out.2 (grown_trans G5.out hg6)))
  clear hg6
  go_wp2_with fail
  refine (knowsM_any w6 (HP.out.kept G6.out)).mono ?_
  rintro e w7 ⟨rfl, hg7⟩
  have G7 := hid_mk (grown_trans G6.out hg7)
  clear hg7
  go_wp2_with fail
  go_ret
  exact ⟨rfl, G7.out⟩

end Go.Proofs.YtliefofdlpljaaaDoor
