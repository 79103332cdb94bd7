/- Put of a message. -/
import Derived.Test.YtliefofdlpljaaaDoorWrB
import Derived.Defers
import Derived.Recover
import Derived.Laws.Pointers
namespace Go.Proofs.YtliefofdlpljaaaDoor
open Go.RowKit Go.Maps
set_option linter.unusedVariables false
set_option linter.unusedSimpArgs false

def msgL (m : Msg) : List UInt8 := if rightM m = true then msgB m else []
def msgErr (m : Msg) : Int := if rightM m = true then 0 else 1
theorem msgL_ok {m : Msg} (h : rightM m = true) : msgL m = msgB m ∧ msgErr m = 0 := by unfold msgL msgErr; rw [if_pos h, if_pos h]; exact ⟨rfl, rfl⟩
theorem msgL_bad {m : Msg} (h : rightM m = false) : msgL m = [] ∧ msgErr m = 1 := by unfold msgL msgErr; rw [h]; exact ⟨rfl, rfl⟩
def upDone : List PanicEntry := [{ v := .iface 9 (.string upText), recovered := true }]

theorem putCatch_up (p q : Addr) (w : World) (x y : Value) (hp : w.cell? p = some x) (hpz : w.frozen? p = false) (hq : w.cell? q = some y) (hqz : w.frozen? q = false) (hpq : p ≠ q) :
    CallsD Tryd.prog 21 #[.pointer (some p), .pointer (some q)] (.panicking upChain) w fun e u' w' =>
      e = .returned (.tuple #[]) ∧ u' = .panicking upDone ∧ w' = (w.setCell p (.slice none 0 0)).setCell q (.int .i64 1) := by
  refine callsD_of_wpS Tryd.func21 rfl fun c₀ cs hu => ?_
  apply wpS_seq
  apply wpS_region
  simp [wpOpsS, go_sem, recoverD, hu, Tryd.ntmps21, Exit.thenS, upChain]
  refine wpS_cond (t := true) (by simp [Act.eval, Array.replicate]) ?_
  simp only [if_true]
  apply wpS_region
  have hq2 : (w.setCell p (.slice none 0 0)).cell? q = some y := by exact (World.cell?_setCell_other _ _ _ _ hpq).trans hq
  simp [wpOpsS, go_sem, hp, hpz, hq, hqz, hq2, bodyPostS, results, Tryd.results21, upDone]

theorem putCatch_idle (p q : Addr) (w : World) :
    CallsD Tryd.prog 21 #[.pointer (some p), .pointer (some q)] .returning w fun e u' w' => e = .returned (.tuple #[]) ∧ u' = .returning ∧ w' = w := by
  refine callsD_of_wpS Tryd.func21 rfl fun c₀ cs hu => ?_
  apply wpS_seq
  apply wpS_region
  simp [wpOpsS, go_sem, recoverD, hu, Tryd.ntmps21, Exit.thenS]
  refine wpS_cond (t := false) (by simp [Act.eval, Array.replicate]) ?_
  simp only [Bool.false_eq_true, if_false]
  refine wpS_of_wp (wp_skip ?_)
  cases c₀
  simp_all [bodyPostS, results, Tryd.results21]

theorem box_cell {w : World} {b : Nat} {v : Value} {t : TypeId} (h : w.heap[b]? = some (.cells #[v] t (0, 0))) : w.cell? ⟨b, 0, none⟩ = some v ∧ w.frozen? ⟨b, 0, none⟩ = false :=
  ⟨by rw [cell_of_row _ _ _ _ _ _ h]; rfl, by simp [World.frozen?, h]⟩
theorem results10 {tmps : Array Value} {w : World} {p q : Nat} {lv ev : Value} (h2 : tmps.getD 2 undef = .pointer (some ⟨p, 0, none⟩)) (h3 : tmps.getD 3 undef = .pointer (some ⟨q, 0, none⟩)) (c1 : w.cell? ⟨p, 0, none⟩ = some lv) (c2 : w.cell? ⟨q, 0, none⟩ = some ev) :
    (results Tryd.f10 tmps).run Tryd.prog w = .ok (.tuple #[lv, ev]) w := by
  have r1 : (loadVar 24 ⟨p, 0, none⟩).run Tryd.prog w = .ok lv w := by simp [loadVar, go_sem, c1]
  have r2 : (loadVar 29 ⟨q, 0, none⟩).run Tryd.prog w = .ok ev w := by simp [loadVar, go_sem, c2]
  have e : Tryd.f10.results = #[.cell 2 24, .cell 3 29] := rfl
  simp only [results, e]
  have h2' : tmps[2]?.getD undef = .pointer (some ⟨p, 0, none⟩) := by simpa using h2
  have h3' : tmps[3]?.getD undef = .pointer (some ⟨q, 0, none⟩) := by simpa using h3
  simp [h2', h3', asAddr, Sem.run_bind, Result.andThen, r1, r2]
theorem putDoor_up {tmps : Array Value} {w : World} {p q : Nat} {x y : Value} {R : Ending → World → Prop} (h2 : tmps.getD 2 undef = .pointer (some ⟨p, 0, none⟩)) (h3 : tmps.getD 3 undef = .pointer (some ⟨q, 0, none⟩)) (hp : w.heap[p]? = some (.cells #[x] 24 (0, 0))) (hq : w.heap[q]? = some (.cells #[y] 29 (0, 0))) (hpq : p ≠ q)
    (h : ∀ w', w' = (w.setCell ⟨p, 0, none⟩ (.slice none 0 0)).setCell ⟨q, 0, none⟩ (.int .i64 1) → R (.returned (.tuple #[.slice none 0 0, .int .i64 1])) w') :
    Leaves Tryd.prog Tryd.f10 tmps R [{ target := .fn (.func 21) #[.pointer (some ⟨p, 0, none⟩), .pointer (some ⟨q, 0, none⟩)], args := #[] }] (.panicking upChain) w := by
  have ne : (⟨p, 0, none⟩ : Addr) ≠ ⟨q, 0, none⟩ := fun e => hpq (by injection e)
  obtain ⟨c1, z1⟩ := box_cell hp
  obtain ⟨c2, z2⟩ := box_cell hq
  refine leaves_cons (f := 21) (args := #[.pointer (some ⟨p, 0, none⟩), .pointer (some ⟨q, 0, none⟩)]) (by simp) (by simp [go_sem]) ?_
  refine (putCatch_up ⟨p, 0, none⟩ ⟨q, 0, none⟩ w x y c1 z1 c2 z2 ne).mono ?_
  rintro e u' w'' ⟨rfl, rfl, rfl⟩
  refine ⟨_, results10 h2 h3 ?_ ?_, h _ rfl⟩
  · refine (World.cell?_setCell_other _ _ _ _ (Ne.symm ne)).trans ?_
    exact World.cell?_setCell_same' _ _ _ (by rw [c1]; rfl)
  · exact World.cell?_setCell_same' _ _ _ (by rw [World.cell?_setCell_other _ _ _ _ ne, c2]; rfl)
theorem putDoor_ok {tmps : Array Value} {w : World} {p q : Nat} {x y : Value} {R : Ending → World → Prop} (h2 : tmps.getD 2 undef = .pointer (some ⟨p, 0, none⟩)) (h3 : tmps.getD 3 undef = .pointer (some ⟨q, 0, none⟩)) (c1 : w.cell? ⟨p, 0, none⟩ = some x) (c2 : w.cell? ⟨q, 0, none⟩ = some y)
    (h : R (.returned (.tuple #[x, y])) w) :
    Leaves Tryd.prog Tryd.f10 tmps R [{ target := .fn (.func 21) #[.pointer (some ⟨p, 0, none⟩), .pointer (some ⟨q, 0, none⟩)], args := #[] }] .returning w := by
  refine leaves_cons (f := 21) (args := #[.pointer (some ⟨p, 0, none⟩), .pointer (some ⟨q, 0, none⟩)]) (by simp) (by simp [go_sem]) ?_
  refine (putCatch_idle ⟨p, 0, none⟩ ⟨q, 0, none⟩ w).mono ?_
  rintro e u' w'' ⟨rfl, rfl, rfl⟩
  exact ⟨_, results10 h2 h3 c1 c2, h⟩

def W3 (w : World) (m : Msg) (ev sv dv : Value) : World := ((w.alloc (.cells (msgCells m ev sv dv) 27)).alloc (.cells #[.slice none 0 0] 24)).alloc (.cells #[.int .i64 0] 29)
theorem W3_facts (w : World) (m : Msg) (ev sv dv : Value) : MB (W3 w m ev sv dv) 27 w.heap.size m ev sv dv ∧ w.grownBy (W3 w m ev sv dv) none ∧ (W3 w m ev sv dv).heap[w.heap.size + 1]? = some (.cells #[.slice none 0 0] 24 (0, 0)) ∧ (W3 w m ev sv dv).heap[w.heap.size + 1 + 1]? = some (.cells #[.int .i64 0] 29 (0, 0)) := by
  have e1 : (w.alloc (.cells (msgCells m ev sv dv) 27)).heap[w.heap.size]? = some (.cells (msgCells m ev sv dv) 27 (0, 0)) := heap_alloc_new w _
  have s1 : (w.alloc (.cells (msgCells m ev sv dv) 27)).heap.size = w.heap.size + 1 := by simp
  have e2 : ((w.alloc (.cells (msgCells m ev sv dv) 27)).alloc (.cells #[.slice none 0 0] 24)).heap[w.heap.size + 1]? = some (.cells #[.slice none 0 0] 24 (0, 0)) := by rw [← s1]; exact heap_alloc_new _ _
  have s2 : ((w.alloc (.cells (msgCells m ev sv dv) 27)).alloc (.cells #[.slice none 0 0] 24)).heap.size = w.heap.size + 1 + 1 := by simp
  have e3 : (W3 w m ev sv dv).heap[w.heap.size + 1 + 1]? = some (.cells #[.int .i64 0] 29 (0, 0)) := by unfold W3; rw [← s2]; exact heap_alloc_new _ _
  refine ⟨?_, ?_, ?_, e3⟩
  · have m1 : MB (w.alloc (.cells (msgCells m ev sv dv) 27)) 27 w.heap.size m ev sv dv := e1
    exact (m1.kept (World.grownBy_alloc _ _ _)).kept (World.grownBy_alloc _ _ _)
  · exact grown_trans (World.grownBy_alloc _ _ _) (grown_trans (World.grownBy_alloc _ _ _) (World.grownBy_alloc _ _ _))
  · exact ((World.grownBy_alloc _ _ none).block _ (by rw [s2]; omega) (by simp)).trans e2

set_option maxRecDepth 100000 in
set_option maxHeartbeats 4000000 in
theorem putM_any (m : Msg) (ev sv dv : Value) (w : World) (he : EntsR w ev m.ents) (hs : IntsR w sv m.srv) (hd : Byt w dv m.data) (hsp : Spans w) :
    Calls Tryd.prog 10 #[.agg (msgCells m ev sv dv)] w (OkPost (msgL m) (msgErr m) w) := by
  have hmf : ∀ (fn : Fn) (first cap : Array Value) (w : World), (Instr.makeFunc fn first cap).run Tryd.prog w = .ok (.func fn first cap) w := fun _ _ _ _ => rfl
  have hle := he.len
  have hls := hs.len
  have hld := hd.len
  have HE := hid_mk he
  have HS := hid_mk hs
  have HD := hid_mk hd
  have HP := hid_mk hsp
  have HF := hid_mk (W3_facts w m ev sv dv)
  clear he hs hd hsp
  obtain ⟨ae, ce, rfl⟩ := hle
  obtain ⟨asv, cs, rfl⟩ := hls
  obtain ⟨ad, cd, rfl⟩ := hld
  have HW : Hid (∀ w, W3 w m (.slice ae m.ents.length ce) (.slice asv m.srv.length cs) (.slice ad m.data.length cd) = ((w.alloc (.cells #[.int .i64 m.kind, .int .i64 m.frm, .int .i64 m.dst, .int .i64 m.term, .int .i64 m.a, .int .i64 m.b, .int .i64 m.c, .int .i64 m.d, .bool m.yes, .slice ae m.ents.length ce, .slice asv m.srv.length cs, .slice ad m.data.length cd] 27)).alloc (.cells #[.slice none 0 0] 24)).alloc (.cells #[.int .i64 0] 29)) := hid_mk (fun _ => rfl)
  unfold msgCells
  go_enter_defers Tryd.func10, Tryd.ntmps10
  go_wp2_with fail
  rw [← HW.out w]
  generalize hw3 : W3 w m (.slice ae m.ents.length ce) (.slice asv m.srv.length cs) (.slice ad m.data.length cd) = w3 at *
  have HUP : Hid (∀ (tmps : Array Value) (W : World), w3.grownBy W none → rightM m = false → tmps.getD 2 undef = .pointer (some ⟨w.heap.size + 1, 0, none⟩) → tmps.getD 3 undef = .pointer (some ⟨w.heap.size + 1 + 1, 0, none⟩) →
      Leaves Tryd.prog Tryd.f10 tmps (OkPost (msgL m) (msgErr m) w) [{ target := .fn (.func 21) #[.pointer (some ⟨w.heap.size + 1, 0, none⟩), .pointer (some ⟨w.heap.size + 1 + 1, 0, none⟩)], args := #[] }] (.panicking upChain) W) := hid_mk (fun tmps W hg hr h2 h3 => by
    obtain ⟨_, g3, e1, e2⟩ := HF.out
    refine putDoor_up h2 h3 ((hg.block _ (Array.getElem?_eq_some_iff.1 e1).1 (by simp)).trans e1) ((hg.block _ (Array.getElem?_eq_some_iff.1 e2).1 (by simp)).trans e2) (by omega) ?_
    rintro w' rfl
    rw [(msgL_bad hr).1, (msgL_bad hr).2]
    exact ⟨none, 0, rfl, World.ownsRow_nil _ _ _ _, grown_new (grown_new (grown_trans g3 hg) (grown_setCell _ _ _ _) (by omega)) (grown_setCell _ _ _ _) (by omega)⟩)
  refine (check_any w.heap.size m _ _ _ ae asv ad ce cs cd w3 HF.out.1 (HP.out.kept HF.out.2.1) rfl rfl rfl).mono ?_
  rintro e w4 ⟨hq, hg4⟩
  have G4 := hid_mk hg4
  clear hg4
  rcases hq with ⟨hc, rfl⟩ | ⟨hc, rfl⟩
  rotate_left
  · exact HUP.out _ w4 G4.out (by unfold rightM; rw [hc]; rfl) rfl rfl
  have HC := hid_mk hc
  clear hc
  go_wp2_with fail
  refine (written_any w.heap.size m _ _ _ w4 (HF.out.1.kept G4.out) HC.out (HE.out.kept (grown_trans HF.out.2.1 G4.out)) (HS.out.kept (grown_trans HF.out.2.1 G4.out)) (HD.out.kept (grown_trans HF.out.2.1 G4.out))).mono ?_
  rintro e w5 ⟨hq, hg5⟩
  have G5 := hid_mk (grown_trans G4.out hg5)
  rcases hq with ⟨hc, v, rfl, ho⟩ | ⟨hc, rfl⟩
  rotate_left
  · exact HUP.out _ w5 G5.out (by unfold rightM; rw [hc]; simp) rfl rfl
  obtain ⟨a5, c5, rfl⟩ := ho.len
  have HR := hid_mk (show rightM m = true by unfold rightM; rw [HC.out, hc]; rfl)
  have HO := hid_mk (ho.base (Nat.le_trans HF.out.2.1.size G4.out.size))
  clear ho hg5 hc
  generalize hn5 : (msgB m).length = n5 at *
  have HN5 := hid_mk hn5
  clear hn5
  have HB : Hid (w5.heap[w.heap.size + 1]? = some (.cells #[.slice none 0 0] 24 (0, 0)) ∧ w5.heap[w.heap.size + 1 + 1]? = some (.cells #[.int .i64 0] 29 (0, 0))) := by
    obtain ⟨_, g3, e1, e2⟩ := HF.out
    exact hid_mk ⟨(G5.out.block _ (Array.getElem?_eq_some_iff.1 e1).1 (by simp)).trans e1, (G5.out.block _ (Array.getElem?_eq_some_iff.1 e2).1 (by simp)).trans e2⟩
  obtain ⟨c1, z1⟩ := box_cell HB.out.1
  obtain ⟨c2, z2⟩ := box_cell HB.out.2
  go_wp2_with fail
  have hq' : (w5.setCell ⟨w.heap.size + 1, 0, none⟩ (.slice a5 n5 c5)).heap[w.heap.size + 1 + 1]? = some (.cells #[.int .i64 0] 29 (0, 0)) := ((grown_setCell w5 (w.heap.size + 1) 0 (.slice a5 n5 c5)).block _ (Array.getElem?_eq_some_iff.1 HB.out.2).1 (by simp)).trans HB.out.2
  have ne : (⟨w.heap.size + 1, 0, none⟩ : Addr) ≠ ⟨w.heap.size + 1 + 1, 0, none⟩ := fun e => by injection e; omega
  refine putDoor_ok (x := .slice a5 n5 c5) (y := .int .i64 0) rfl rfl ?_ ?_ ?_
  · exact (World.cell?_setCell_other _ _ _ _ (Ne.symm ne)).trans (World.cell?_setCell_same' _ _ _ (by rw [c1]; rfl))
  · exact World.cell?_setCell_same' _ _ _ (by rw [World.cell?_setCell_other _ _ _ _ ne, c2]; rfl)
  · rw [(msgL_ok HR.out).1, (msgL_ok HR.out).2]
    refine ⟨a5, c5, by rw [HN5.out], ?_, ?_⟩
    · rw [HN5.out]
      exact owns_kept (owns_kept HO.out (grown_setCell _ _ _ _) (fun g cur hh => ne_tag hh HB.out.1 (by decide))) (grown_setCell _ _ _ _) (fun g cur hh => ne_tag hh hq' (by decide))
    · exact grown_new (grown_new (grown_trans HF.out.2.1 G5.out) (grown_setCell _ _ _ _) (by omega)) (grown_setCell _ _ _ _) (by omega)

/-! ### What must come -/
def voteM : Msg := ⟨2, 1, 2, 3, 0, 0, 0, 0, true, [], [], []⟩
theorem vote_right : rightM voteM = true := by decide
theorem numB_small (n : Nat) (h : n < 256) (h0 : n ≠ 0) : numB n = [1, UInt8.ofNat n] := by
  unfold numB
  rw [digs_pos h0, show n / 256 = 0 by omega, digs_zero]
  rfl
theorem numB_0 : numB 0 = [0] := by unfold numB; rw [digs_zero]; rfl
theorem vote_bytes : msgB voteM = [1, 2, 1, 1, 1, 2, 1, 3, 0, 0, 0, 0, 1, 1] := by
  have h1 : numB 1 = [1, 1] := numB_small 1 (by omega) (by omega)
  have h2 : numB 2 = [1, 2] := numB_small 2 (by omega) (by omega)
  have h3 : numB 3 = [1, 3] := numB_small 3 (by omega) (by omega)
  have e : partsM voteM = [numB 2, numB 1, numB 2, numB 3, numB 0, numB 0, numB 0, numB 0, numB 1] := rfl
  unfold msgB
  rw [e, h1, h2, h3, numB_0]
  rfl
set_option maxHeartbeats 1000000 in
theorem knowsM_any (w : World) (hsp : Spans w) : Calls Tryd.prog 14 #[] w fun e w' => e = .returned (.bool true) ∧ w.grownBy w' none := by
  have C1 := hid_mk (putM_any voteM (.slice none 0 0) (.slice none 0 0) (.slice none 0 0) w (EntsR.nil w) (IntsR.nil w) (Byt.nil w) hsp)
  rw [(msgL_ok vote_right).1, (msgL_ok vote_right).2, vote_bytes] at C1
  clear hsp
  go_enter Tryd.func14, Tryd.ntmps14
  go_wp2_with fail
  refine C1.out.mono ?_
  rintro e w1 ⟨a1, c1, rfl, ho1, hg1⟩
  have H1 := hid_mk (And.intro ho1 hg1)
  clear ho1 hg1
  simp only [List.length_cons, List.length_nil, Nat.zero_add, Nat.reduceAdd] at H1 ⊢
  have t1 := H1.out.1.byt.text
  go_wp2_with (go_at_call 12; refine (num_any _ _).mono ?_; rintro e wx ⟨rfl, rfl⟩)
  go_ret
  exact ⟨rfl, H1.out.2⟩

end Go.Proofs.YtliefofdlpljaaaDoor
