/- Get of a message. -/
import Derived.Test.YtliefofdlpljaaaDoorKf
namespace Go.Proofs.YtliefofdlpljaaaDoor
open Go.RowKit Go.Maps
set_option linter.unusedVariables false
set_option linter.unusedSimpArgs false

def noM : Msg := ⟨0, 0, 0, 0, 0, 0, 0, 0, false, [], [], []⟩
def gotM (l : List UInt8) : Msg := if gOk l = true then gM l else noM
def gotErr (l : List UInt8) : Int := if gOk l = true then 0 else 21
theorem gotM_ok {l : List UInt8} (h : gOk l = true) : gotM l = gM l ∧ gotErr l = 0 := by unfold gotM gotErr; rw [if_pos h, if_pos h]; exact ⟨rfl, rfl⟩
theorem gotM_bad {l : List UInt8} (h : gOk l = false) : gotM l = noM ∧ gotErr l = 21 := by unfold gotM gotErr; rw [h]; exact ⟨rfl, rfl⟩

/-- What lies there behind a panic: nothing, and the error. -/
def resetM (w : World) (g q : Nat) : World :=
  (((((((((((((w.setCell ⟨g, 0, none⟩ (.int .i64 0)).setCell ⟨g, 1, none⟩ (.int .i64 0)).setCell ⟨g, 2, none⟩ (.int .i64 0)).setCell ⟨g, 3, none⟩ (.int .i64 0)).setCell ⟨g, 4, none⟩ (.int .i64 0)).setCell ⟨g, 5, none⟩ (.int .i64 0)).setCell ⟨g, 6, none⟩ (.int .i64 0)).setCell ⟨g, 7, none⟩ (.int .i64 0)).setCell ⟨g, 8, none⟩ (.bool false)).setCell ⟨g, 9, none⟩ (.slice none 0 0)).setCell ⟨g, 10, none⟩ (.slice none 0 0)).setCell ⟨g, 11, none⟩ (.slice none 0 0)).setCell ⟨q, 0, none⟩ (.int .i64 21))
theorem resetM_facts {w : World} {g q : Nat} {m : Msg} {ev sv dv y : Value} (h : MB w 27 g m ev sv dv) (hq : w.heap[q]? = some (.cells #[y] 29 (0, 0))) (hgq : g ≠ q) : MB (resetM w g q) 27 g noM (.slice none 0 0) (.slice none 0 0) (.slice none 0 0) ∧ (resetM w g q).cell? ⟨q, 0, none⟩ = some (.int .i64 21) := by
  constructor
  · unfold MB msgCells at *
    unfold resetM noM
    have : ¬ q = g := fun e => hgq e.symm
    simp [World.setCell, Array.getElem?_modify, h, this]
  · unfold resetM
    refine World.cell?_setCell_same' _ _ _ ?_
    simp [World.cell?, World.setCell, Array.getElem?_modify, hq, hgq]
theorem grown_reset {w0 w : World} {g q : Nat} (h : w0.grownBy w none) (hg : w0.heap.size ≤ g) (hq : w0.heap.size ≤ q) : w0.grownBy (resetM w g q) none := by
  unfold resetM
  refine grown_new (grown_new h ?_ hg) (grown_setCell _ _ _ _) hq
  exact grown_set (grown_set (grown_set (grown_set (grown_set (grown_set (grown_set (grown_set (grown_set (grown_set (grown_set (grown_set (grown_refl _ _))))))))))))

set_option maxHeartbeats 2000000 in
theorem getCatch_up (g q : Nat) (w : World) (m : Msg) (ev sv dv y : Value) (h : MB w 27 g m ev sv dv) (hq : w.heap[q]? = some (.cells #[y] 29 (0, 0))) (hgq : g ≠ q) :
    CallsD Tryd.prog 32 #[.pointer (some ⟨g, 0, none⟩), .pointer (some ⟨q, 0, none⟩)] (.panicking upChain) w fun e u' w' =>
      e = .returned (.tuple #[]) ∧ u' = .panicking upDone ∧ w' = resetM w g q := by
  obtain ⟨p0, p1, p2, p3, p4, p5, p6, p7, p8, p9, p10, p11⟩ := mb_all h
  have pf := h.rest.2.2.2.2
  obtain ⟨c2, z2⟩ := box_cell hq
  have ne : ∀ i, (⟨g, i, none⟩ : Addr) ≠ ⟨q, 0, none⟩ := fun i e => hgq (by injection e)
  refine callsD_of_wpS Tryd.func32 rfl fun c₀ cs hu => ?_
  apply wpS_seq
  apply wpS_region
  simp [wpOpsS, go_sem, recoverD, hu, Tryd.ntmps32, Exit.thenS, upChain]
  refine wpS_cond (t := true) (by simp [Act.eval, Array.replicate]) ?_
  simp only [if_true]
  apply wpS_region
  simp [wpOpsS, go_sem, p0, p1, p2, p3, p4, p5, p6, p7, p8, p9, p10, p11, pf, c2, z2, bodyPostS, results, Tryd.results32, upDone, resetM, World.cell?_setCell_other, ne]
theorem getCatch_idle (p q : Addr) (w : World) :
    CallsD Tryd.prog 32 #[.pointer (some p), .pointer (some q)] .returning w fun e u' w' => e = .returned (.tuple #[]) ∧ u' = .returning ∧ w' = w := by
  refine callsD_of_wpS Tryd.func32 rfl fun c₀ cs hu => ?_
  apply wpS_seq
  apply wpS_region
  simp [wpOpsS, go_sem, recoverD, hu, Tryd.ntmps32, Exit.thenS]
  refine wpS_cond (t := false) (by simp [Act.eval, Array.replicate]) ?_
  simp only [Bool.false_eq_true, if_false]
  refine wpS_of_wp (wp_skip ?_)
  cases c₀
  simp_all [bodyPostS, results, Tryd.results32]

theorem msg_relaid {W : World} {g : Nat} {t : TypeId} {m : Msg} {ev sv dv : Value} (hb : MB W t g m ev sv dv) (m' : Msg) (ev' sv' dv' : Value) : MB ((((((((((((W.setCell ⟨g, 0, none⟩ (.int .i64 m'.kind)).setCell ⟨g, 1, none⟩ (.int .i64 m'.frm)).setCell ⟨g, 2, none⟩ (.int .i64 m'.dst)).setCell ⟨g, 3, none⟩ (.int .i64 m'.term)).setCell ⟨g, 4, none⟩ (.int .i64 m'.a)).setCell ⟨g, 5, none⟩ (.int .i64 m'.b)).setCell ⟨g, 6, none⟩ (.int .i64 m'.c)).setCell ⟨g, 7, none⟩ (.int .i64 m'.d)).setCell ⟨g, 8, none⟩ (.bool m'.yes)).setCell ⟨g, 9, none⟩ (ev')).setCell ⟨g, 10, none⟩ (sv')).setCell ⟨g, 11, none⟩ (dv')) t g m' ev' sv' dv' := by
  unfold MB msgCells at *
  simp [World.setCell, Array.getElem?_modify, hb]
theorem results16 {tmps : Array Value} {w : World} {g q : Nat} {m : Msg} {ev sv dv y : Value} (h2 : tmps.getD 2 undef = .pointer (some ⟨g, 0, none⟩)) (h3 : tmps.getD 3 undef = .pointer (some ⟨q, 0, none⟩)) (hm : MB w 27 g m ev sv dv) (c2 : w.cell? ⟨q, 0, none⟩ = some y) :
    (results Tryd.f16 tmps).run Tryd.prog w = .ok (.tuple #[.agg (msgCells m ev sv dv), y]) w := by
  have r1 := load27 w 27 g m ev sv dv hm
  have r2 : (loadVar 29 ⟨q, 0, none⟩).run Tryd.prog w = .ok y w := by simp [loadVar, go_sem, c2]
  have e : Tryd.f16.results = #[.cell 2 27, .cell 3 29] := rfl
  simp only [results, e]
  have h2' : tmps[2]?.getD undef = .pointer (some ⟨g, 0, none⟩) := by simpa using h2
  have h3' : tmps[3]?.getD undef = .pointer (some ⟨q, 0, none⟩) := by simpa using h3
  simp [h2', h3', asAddr, Sem.run_bind, Result.andThen, r1, r2]
def GetPost (l : List UInt8) (w : World) (e : Ending) (w' : World) : Prop := ∃ ev sv dv, e = .returned (.tuple #[.agg (msgCells (gotM l) ev sv dv), .int .i64 (gotErr l)]) ∧ (EntsR w' ev (gotM l).ents ∧ IntsR w' sv (gotM l).srv ∧ Byt w' dv (gotM l).data) ∧ w.grownBy w' none
theorem getDoor_up {l : List UInt8} {tmps : Array Value} {w0 w : World} {g q : Nat} {m : Msg} {ev sv dv y : Value} (h2 : tmps.getD 2 undef = .pointer (some ⟨g, 0, none⟩)) (h3 : tmps.getD 3 undef = .pointer (some ⟨q, 0, none⟩)) (hm : MB w 27 g m ev sv dv) (hq : w.heap[q]? = some (.cells #[y] 29 (0, 0))) (hgq : g ≠ q) (hgr : w0.grownBy w none) (hg0 : w0.heap.size ≤ g) (hq0 : w0.heap.size ≤ q) (hno : gOk l = false) :
    Leaves Tryd.prog Tryd.f16 tmps (GetPost l w0) [{ target := .fn (.func 32) #[.pointer (some ⟨g, 0, none⟩), .pointer (some ⟨q, 0, none⟩)], args := #[] }] (.panicking upChain) w := by
  refine leaves_cons (f := 32) (args := #[.pointer (some ⟨g, 0, none⟩), .pointer (some ⟨q, 0, none⟩)]) (by simp) (by simp [go_sem]) ?_
  refine (getCatch_up g q w m ev sv dv y hm hq hgq).mono ?_
  rintro e u' w'' ⟨rfl, rfl, rfl⟩
  obtain ⟨f1, f2⟩ := resetM_facts hm hq hgq
  refine ⟨_, results16 h2 h3 f1 f2, ?_⟩
  unfold GetPost
  rw [(gotM_bad hno).1, (gotM_bad hno).2]
  exact ⟨_, _, _, rfl, ⟨EntsR.nil _, IntsR.nil _, Byt.nil _⟩, grown_reset hgr hg0 hq0⟩

set_option maxRecDepth 100000 in
set_option maxHeartbeats 8000000 in
theorem getM_any (v : Value) (l : List UInt8) (w : World) (h : Byt w v l) (hl : l.length ≤ 200000000000000) (hsp : Spans w)
    (hcap : gK l = 3 → ∀ k, k ≤ (gC l).1 → (∀ d ∈ (rdBs k (gC l).2).1, entOk d = true) → (k + 1) * 48 ≤ 140737488355328) :
    Calls Tryd.prog 16 #[v] w (GetPost l w) := by
  have hmf : ∀ (fn : Fn) (first cap : Array Value) (w : World), (Instr.makeFunc fn first cap).run Tryd.prog w = .ok (.func fn first cap) w := fun _ _ _ _ => rfl
  have hv := h.len
  have HB := hid_mk h
  have HP := hid_mk hsp
  have HCAP := hid_mk hcap
  clear h hcap hsp
  obtain ⟨av, cv, rfl⟩ := hv
  have HF : Hid (((w.alloc (.cells zeroM 27)).alloc (.cells #[.int .i64 0] 29)).heap[w.heap.size]? = some (.cells zeroM 27 (0, 0)) ∧ ((w.alloc (.cells zeroM 27)).alloc (.cells #[.int .i64 0] 29)).heap[w.heap.size + 1]? = some (.cells #[.int .i64 0] 29 (0, 0)) ∧ w.grownBy ((w.alloc (.cells zeroM 27)).alloc (.cells #[.int .i64 0] 29)) none) := hid_mk (by
    have s1 : (w.alloc (.cells zeroM 27)).heap.size = w.heap.size + 1 := by simp
    have e1 : (w.alloc (.cells zeroM 27)).heap[w.heap.size]? = some (.cells zeroM 27 (0, 0)) := heap_alloc_new w _
    refine ⟨((World.grownBy_alloc _ _ none).block _ (by omega) (by simp)).trans e1, ?_, grown_trans (World.grownBy_alloc _ _ _) (World.grownBy_alloc _ _ _)⟩
    rw [← s1]
    exact heap_alloc_new _ _)
  unfold zeroM at HF
  go_enter_defers Tryd.func16, Tryd.ntmps16
  go_wp2_with fail
  generalize ((w.alloc (.cells _ 27)).alloc (.cells _ 29)) = w1 at *
  have HZ : Hid (w1.heap[w.heap.size]? = some (.cells zeroM 27 (0, 0))) := hid_mk HF.out.1
  refine (read_any _ l w1 (HB.out.kept HF.out.2.2) hl HCAP.out).mono ?_
  rintro e w2 ⟨hg2, hq⟩
  have G2 := hid_mk hg2
  have HZ2 := hid_mk ((hg2.block _ (Array.getElem?_eq_some_iff.1 HZ.out).1 (by simp)).trans HZ.out)
  have HQ2 := hid_mk ((hg2.block _ (Array.getElem?_eq_some_iff.1 HF.out.2.1).1 (by simp)).trans HF.out.2.1)
  clear hg2
  rcases hq with ⟨hok, ev, sv, dv, es, rfl, ⟨he, hmap⟩, hs, hd⟩ | ⟨hok, rfl⟩
  rotate_left
  · exact getDoor_up (m := noM) rfl rfl (show MB w2 27 w.heap.size noM (.slice none 0 0) (.slice none 0 0) (.slice none 0 0) from HZ2.out) HQ2.out (by omega) (grown_trans HF.out.2.2 G2.out) (Nat.le_refl _) (by omega) (by rw [gOk_of, hok]; rfl)
  obtain ⟨a1, c1, hev⟩ := row_shape he.row
  rw [show es.length = (gM l).ents.length by rw [← hmap, List.length_map]] at hev
  obtain ⟨a2, c2, hsv⟩ := hs.len
  obtain ⟨a3, c3, hdv⟩ := hd.len
  have HI := hid_mk (And.intro (And.intro he hmap) (And.intro hs hd))
  have HO := hid_mk hok
  obtain ⟨mm, hmm⟩ : ∃ mm, gM l = mm := ⟨_, rfl⟩
  have HMM := hid_mk hmm
  rw [hmm] at HI hev hsv hdv ⊢
  clear he hmap hs hd hok hmm
  subst hev
  subst hsv
  subst hdv
  have hz : ∀ i, w2.frozen? ⟨w.heap.size, i, none⟩ = false := fun i => by simp [World.frozen?, HZ2.out]
  have hc : ∀ i, w2.cell? ⟨w.heap.size, i, none⟩ = zeroM[i]? := fun i => cell_of_row _ _ _ _ _ _ HZ2.out
  have z0 := hc 0
  have z1 := hc 1
  have z2 := hc 2
  have z3 := hc 3
  have z4 := hc 4
  have z5 := hc 5
  have z6 := hc 6
  have z7 := hc 7
  have z8 := hc 8
  have z9 := hc 9
  have z10 := hc 10
  have z11 := hc 11
  clear hc
  simp only [zeroM, List.getElem?_toArray, List.getElem?_cons_zero, List.getElem?_cons_succ] at z0 z1 z2 z3 z4 z5 z6 z7 z8 z9 z10 z11
  unfold msgCells
  go_wp2_with fail
  clear z0 z1 z2 z3 z4 z5 z6 z7 z8 z9 z10 z11 hz
  have HL3 := hid_mk (msg_laid HZ2.out mm (.slice a1 mm.ents.length c1) (.slice a2 mm.srv.length c2) (.slice a3 mm.data.length c3))
  have G3 := hid_mk (grown_msg w2 w.heap.size mm (.slice a1 mm.ents.length c1) (.slice a2 mm.srv.length c2) (.slice a3 mm.data.length c3))
  obtain ⟨w3, hw3⟩ : ∃ w3, w3 = ((((((((((((w2.setCell ⟨w.heap.size, 0, none⟩ (.int .i64 mm.kind)).setCell ⟨w.heap.size, 1, none⟩ (.int .i64 mm.frm)).setCell ⟨w.heap.size, 2, none⟩ (.int .i64 mm.dst)).setCell ⟨w.heap.size, 3, none⟩ (.int .i64 mm.term)).setCell ⟨w.heap.size, 4, none⟩ (.int .i64 mm.a)).setCell ⟨w.heap.size, 5, none⟩ (.int .i64 mm.b)).setCell ⟨w.heap.size, 6, none⟩ (.int .i64 mm.c)).setCell ⟨w.heap.size, 7, none⟩ (.int .i64 mm.d)).setCell ⟨w.heap.size, 8, none⟩ (.bool mm.yes)).setCell ⟨w.heap.size, 9, none⟩ (.slice a1 mm.ents.length c1)).setCell ⟨w.heap.size, 10, none⟩ (.slice a2 mm.srv.length c2)).setCell ⟨w.heap.size, 11, none⟩ (.slice a3 mm.data.length c3)) := ⟨_, rfl⟩
  rw [← hw3] at HL3 G3 ⊢
  clear hw3
  have HQ3 := hid_mk ((G3.out.block (w.heap.size + 1) (Array.getElem?_eq_some_iff.1 HQ2.out).1 (by simp)).trans HQ2.out)
  have GW3 := hid_mk (show w.grownBy w3 none from grown_new (grown_trans HF.out.2.2 G2.out) G3.out (Nat.le_refl _))
  refine (check_any w.heap.size mm _ _ _ a1 a2 a3 c1 c2 c3 w3 HL3.out (HP.out.kept GW3.out) rfl rfl rfl).mono ?_
  rintro e w4 ⟨hq, hg4⟩
  have G4 := hid_mk hg4
  have HQ4 := hid_mk ((hg4.block _ (Array.getElem?_eq_some_iff.1 HQ3.out).1 (by simp)).trans HQ3.out)
  have HM4 := hid_mk (HL3.out.kept hg4)
  clear hg4
  rcases hq with ⟨hck, rfl⟩ | ⟨hck, rfl⟩
  rotate_left
  · exact getDoor_up (m := mm) rfl rfl HM4.out HQ4.out (by omega) (grown_trans GW3.out G4.out) (Nat.le_refl _) (by omega) (by rw [gOk_of, HO.out, HMM.out, hck]; rfl)
  have HCK := hid_mk (show gOk l = true by rw [gOk_of, HO.out, HMM.out, hck]; rfl)
  clear hck
  obtain ⟨p0, p1, p2, p3, p4, p5, p6, p7, p8, p9, p10, p11⟩ := mb_all HM4.out
  have pf := HM4.out.rest.2.2.2.2
  obtain ⟨qc, qz⟩ := box_cell HQ4.out
  go_wp2_with fail
  have hb5 := msg_relaid HM4.out mm (.slice a1 mm.ents.length c1) (.slice a2 mm.srv.length c2) (.slice a3 mm.data.length c3)
  have hg5 := grown_msg w4 w.heap.size mm (.slice a1 mm.ents.length c1) (.slice a2 mm.srv.length c2) (.slice a3 mm.data.length c3)
  obtain ⟨w5, hw5⟩ : ∃ w5, w5 = ((((((((((((w4.setCell ⟨w.heap.size, 0, none⟩ (.int .i64 mm.kind)).setCell ⟨w.heap.size, 1, none⟩ (.int .i64 mm.frm)).setCell ⟨w.heap.size, 2, none⟩ (.int .i64 mm.dst)).setCell ⟨w.heap.size, 3, none⟩ (.int .i64 mm.term)).setCell ⟨w.heap.size, 4, none⟩ (.int .i64 mm.a)).setCell ⟨w.heap.size, 5, none⟩ (.int .i64 mm.b)).setCell ⟨w.heap.size, 6, none⟩ (.int .i64 mm.c)).setCell ⟨w.heap.size, 7, none⟩ (.int .i64 mm.d)).setCell ⟨w.heap.size, 8, none⟩ (.bool mm.yes)).setCell ⟨w.heap.size, 9, none⟩ (.slice a1 mm.ents.length c1)).setCell ⟨w.heap.size, 10, none⟩ (.slice a2 mm.srv.length c2)).setCell ⟨w.heap.size, 11, none⟩ (.slice a3 mm.data.length c3)) := ⟨_, rfl⟩
  rw [← hw5] at hb5 hg5 ⊢
  clear hw5 p0 p1 p2 p3 p4 p5 p6 p7 p8 p9 p10 p11 pf qc qz
  have hq5 : w5.heap[w.heap.size + 1]? = some (.cells #[.int .i64 0] 29 (0, 0)) := (hg5.block _ (Array.getElem?_eq_some_iff.1 HQ4.out).1 (by simp)).trans HQ4.out
  have hg6 := grown_setCell w5 (w.heap.size + 1) 0 (.int .i64 0)
  have hm6 : MB (w5.setCell ⟨w.heap.size + 1, 0, none⟩ (.int .i64 0)) 27 w.heap.size mm (.slice a1 mm.ents.length c1) (.slice a2 mm.srv.length c2) (.slice a3 mm.data.length c3) := (hg6.block _ (Array.getElem?_eq_some_iff.1 hb5).1 (by simp)).trans hb5
  have tr : ∀ (e : TypeId) (size : Nat) (v : Value) (n : Nat) (xs : List Value), e ≠ 27 → e ≠ 29 → w2.ownsRow w1.heap.size e size v n xs → (w5.setCell ⟨w.heap.size + 1, 0, none⟩ (.int .i64 0)).ownsRow w1.heap.size e size v n xs := fun e size v n xs h27 h29 ho =>
    owns_kept (owns_kept (owns_kept (owns_kept ho G3.out (fun _ _ hh => ne_tag hh HZ2.out h27)) G4.out (fun _ _ _ => by simp)) hg5 (fun _ _ hh => ne_tag hh HM4.out h27)) hg6 (fun _ _ hh => ne_tag hh hq5 h29)
  refine leaves_cons (f := 32) (args := #[.pointer (some ⟨w.heap.size, 0, none⟩), .pointer (some ⟨w.heap.size + 1, 0, none⟩)]) (by simp) (by simp [go_sem]) ?_
  refine (getCatch_idle _ _ _).mono ?_
  rintro e u' w'' ⟨rfl, rfl, rfl⟩
  refine ⟨_, results16 rfl rfl hm6 (World.cell?_setCell_same' _ _ _ (by rw [(box_cell hq5).1]; rfl)), ?_⟩
  unfold GetPost
  rw [(gotM_ok HCK.out).1, (gotM_ok HCK.out).2, HMM.out]
  refine ⟨_, _, _, rfl, ⟨?_, ?_, ?_⟩, ?_⟩
  · have : EQ w1.heap.size (w5.setCell ⟨w.heap.size + 1, 0, none⟩ (.int .i64 0)) (.slice a1 mm.ents.length c1) es := ⟨tr _ _ _ _ _ (by decide) (by decide) HI.out.1.1.row, fun p hp => ⟨tr _ _ _ _ _ (by decide) (by decide) (HI.out.1.1.own p hp).1, (HI.out.1.1.own p hp).2⟩⟩
    have h5 := this.reads
    rw [HI.out.1.2] at h5
    exact h5
  · exact OwnI.ints (tr _ _ _ _ _ (by decide) (by decide) HI.out.2.1)
  · exact Own.byt (tr _ _ _ _ _ (by decide) (by decide) HI.out.2.2)
  · exact grown_new (grown_new (grown_trans GW3.out G4.out) hg5 (Nat.le_refl _)) hg6 (by omega)

end Go.Proofs.YtliefofdlpljaaaDoor
