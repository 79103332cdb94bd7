/- ClientNil: no client, and one that nobody made. -/
import Derived.Test.YtgebhomiehadmaaCcT
namespace Go.Proofs.Ytgebhomiehadmaa
open Go.RowKit Go.Maps
set_option linter.unusedVariables false
set_option linter.unusedSimpArgs false
set_option maxRecDepth 100000

/-- A call of a client, as it came in. -/
structure OpG where
  kd : Int
  o : Ord
  ov : Value
  a : Ans
  av : Value
  R : List RV
def opL (x : OpG) : List Value := [.int .i64 x.kd, .int .i64 x.o.kd, .int .i64 x.o.fr, .int .i64 x.o.mo, x.ov, .int .i64 x.a.id, .int .i64 x.a.e, .int .i64 x.a.se, .int .i64 x.a.nu, .int .i64 x.a.le, x.av]
structure OpOk (w : World) (x : OpG) : Prop where
  ob : Byt w x.ov x.o.b
  ol : x.o.b.length ≤ 140737488355328
  rd : RecR w x.av x.R
  fst : x.R.map (·.1) = x.a.rs
  few : x.R.length ≤ 5864062014805
  sml : ∀ p ∈ x.R, p.1.length ≤ 140737488355328
theorem OpOk.kept {w w' : World} {x : OpG} (h : OpOk w x) (hg : w.grownBy w' none) : OpOk w' x := ⟨h.ob.kept hg, h.ol, h.rd.kept hg, h.fst, h.few, h.sml⟩
theorem blk11 {w : World} {q : Nat} {x : OpG} (h : Blk w q (opL x).toArray 40) : w.cell? ⟨q, 0, none⟩ = some (.int .i64 x.kd) ∧ w.cell? ⟨q, 1, none⟩ = some (.int .i64 x.o.kd) ∧ w.cell? ⟨q, 2, none⟩ = some (.int .i64 x.o.fr) ∧ w.cell? ⟨q, 3, none⟩ = some (.int .i64 x.o.mo) ∧ w.cell? ⟨q, 4, none⟩ = some x.ov ∧
    w.cell? ⟨q, 5, none⟩ = some (.int .i64 x.a.id) ∧ w.cell? ⟨q, 6, none⟩ = some (.int .i64 x.a.e) ∧ w.cell? ⟨q, 7, none⟩ = some (.int .i64 x.a.se) ∧ w.cell? ⟨q, 8, none⟩ = some (.int .i64 x.a.nu) ∧ w.cell? ⟨q, 9, none⟩ = some (.int .i64 x.a.le) ∧ w.cell? ⟨q, 10, none⟩ = some x.av :=
  ⟨by rw [h.cell]; rfl, by rw [h.cell]; rfl, by rw [h.cell]; rfl, by rw [h.cell]; rfl, by rw [h.cell]; rfl, by rw [h.cell]; rfl, by rw [h.cell]; rfl, by rw [h.cell]; rfl, by rw [h.cell]; rfl, by rw [h.cell]; rfl, by rw [h.cell]; rfl⟩
set_option maxHeartbeats 8000000 in
theorem clientNil_walk (x : OpG) (w : World) (hx : OpOk w x) : Calls Try.prog 4 #[.agg (opL x).toArray] w fun e w' => e = .returned (.bool true) ∧ w.grownBy w' none := by
  have HX := hid_mk hx
  obtain ⟨oa, oc, hov⟩ := hx.ob.len
  obtain ⟨ra, rc, hav⟩ := hx.rd.len
  have HV := hid_mk (And.intro hov hav)
  clear hx hov hav
  have H0 := hid_mk (And.intro (blk_alloc w (opL x).toArray 40) (World.grownBy_alloc w (.cells (opL x).toArray 40) none))
  obtain ⟨C, hC⟩ : ∃ C, C = (opL x).toArray := ⟨_, rfl⟩
  have HC := hid_mk (fun (W : World) (q : Nat) (hq : Blk W q C 40) => show W.cell? ⟨q, 1, none⟩ = some (.int .i64 x.o.kd) ∧ W.cell? ⟨q, 2, none⟩ = some (.int .i64 x.o.fr) ∧ W.cell? ⟨q, 3, none⟩ = some (.int .i64 x.o.mo) ∧ W.cell? ⟨q, 4, none⟩ = some (.slice oa x.o.b.length oc) ∧
      W.cell? ⟨q, 5, none⟩ = some (.int .i64 x.a.id) ∧ W.cell? ⟨q, 6, none⟩ = some (.int .i64 x.a.e) ∧ W.cell? ⟨q, 7, none⟩ = some (.int .i64 x.a.se) ∧ W.cell? ⟨q, 8, none⟩ = some (.int .i64 x.a.nu) ∧ W.cell? ⟨q, 9, none⟩ = some (.int .i64 x.a.le) ∧ W.cell? ⟨q, 10, none⟩ = some (.slice ra x.R.length rc) from by
    rw [hC] at hq
    have := blk11 hq
    rw [HV.out.1, HV.out.2] at this
    exact this.2)
  rw [← hC] at H0 ⊢
  have HCC := hid_mk hC
  clear hC
  go_enter Try.func4, Try.ntmps4
  go_wp2_with fail
  generalize hw0 : (w.alloc (.cells C 40)) = w0 at *
  clear hw0
  generalize hq : w.heap.size = q at *
  have HQ := hid_mk hq
  clear hq
  go_loopg [3, 4] 2 (fun g pv ivv W => ∃ (i : Nat) (p : Option Addr), i ≤ 2 ∧ g = 2 - i ∧ ivv = .int .i64 i ∧ pv = .pointer p ∧ Hid (NoC W (.pointer p) ∧ Blk W q C 40 ∧ w.grownBy W none))
  case atStart => exact ⟨0, none, by omega, rfl, rfl, rfl, hid_mk ⟨.inl rfl, H0.out.1, H0.out.2⟩⟩
  case round =>
    obtain ⟨i, p, hi, hgk, rfl, rfl, H⟩ := hrel
    rename World => W
    clear H0
    by_cases hlt : i < 2
    · have hlt' : (i : Int) < 2 := by omega
      go_wp2_with fail
      refine (done_no H.out.1).mono ?_
      rintro e w1 ⟨rfl, hg⟩
      unfold ordZ ansZ
      have G1 := hid_mk (grown_trans hg (ga2 w1 (.cells #[.int .i64 0, .int .i64 0, .int .i64 0, .slice none 0 0] 42) (.cells #[.int .i64 0, .int .i64 0, .int .i64 0, .int .i64 0, .slice none 0 0, .int .i64 0] 44)))
      have NB := hid_mk (busy_no (H.out.1.kept G1.out))
      obtain ⟨k1, k2, k3, k4, k5, k6, k7, k8, k9, k10⟩ := HC.out _ q (H.out.2.1.kept G1.out (by simp))
      clear hg
      go_wp2_with (go_at_call 15; refine NB.out.mono ?_; rintro e w' ⟨rfl, hw⟩; rw [hw]; clear hw)
      generalize (w1.alloc (.cells #[.int .i64 0, .int .i64 0, .int .i64 0, .slice none 0 0] 42)).alloc (.cells #[.int .i64 0, .int .i64 0, .int .i64 0, .int .i64 0, .slice none 0 0, .int .i64 0] 44) = w2 at *
      have hob := (HX.out.kept (grown_trans H.out.2.2 G1.out)).ob
      rw [HV.out.1] at hob
      refine (order_any hob HX.out.ol x.o.kd x.o.fr x.o.mo).mono ?_
      rintro e w3 ⟨u, rfl, _, hg⟩
      have G3 := hid_mk (grown_trans G1.out hg)
      clear hob hg k1 k2 k3 k4 k5 k6 k7 k8 k9 k10
      go_wp2_with fail
      refine (do_no (H.out.1.kept G3.out) x.o u).mono ?_
      rintro e w4 ⟨rfl, hg⟩
      have G4 := hid_mk (grown_trans G3.out hg)
      obtain ⟨k1, k2, k3, k4, k5, k6, k7, k8, k9, k10⟩ := HC.out _ q (H.out.2.1.kept G4.out (by simp))
      clear hg
      go_wp2_with (go_at_call 11; refine (num_any _ _).mono ?_; rintro e w' ⟨rfl, hw⟩; rw [hw]; clear hw)
      have hrd := (HX.out.kept (grown_trans H.out.2.2 G4.out)).rd
      rw [HV.out.2] at hrd
      refine (answer_any x.a hrd HX.out.few HX.out.sml).mono ?_
      rintro e w5 ⟨u2, rfl, R', _, _, hg⟩
      have G5 := hid_mk (grown_trans G4.out hg)
      clear hrd hg k1 k2 k3 k4 k5 k6 k7 k8 k9 k10
      go_wp2_with fail
      refine (heard_no (H.out.1.kept G5.out) x.a u2).mono ?_
      rintro e w6 ⟨rfl, hg⟩
      have G6 := hid_mk (grown_trans G5.out hg)
      clear hg
      have N0 := hid_mk (tick_no (H.out.1.kept G6.out))
      have N1 := hid_mk (calls_no (H.out.1.kept G6.out))
      have N2 := hid_mk (session_no (H.out.1.kept G6.out))
      have N3 := hid_mk (seq_no (H.out.1.kept G6.out))
      have N4 := hid_mk (tries_no (H.out.1.kept G6.out))
      go_wp2_with (first | (go_at_call 11; refine (num_any _ _).mono ?_; rintro e w' ⟨rfl, hw⟩; rw [hw]; clear hw) | (go_at_call 20; refine N0.out.mono ?_; rintro e w' ⟨rfl, hw⟩; rw [hw]; clear hw) | (go_at_call 21; refine N1.out.mono ?_; rintro e w' ⟨rfl, hw⟩; rw [hw]; clear hw) | (go_at_call 22; refine N2.out.mono ?_; rintro e w' ⟨rfl, hw⟩; rw [hw]; clear hw) | (go_at_call 23; refine N3.out.mono ?_; rintro e w' ⟨rfl, hw⟩; rw [hw]; clear hw) | (go_at_call 24; refine N4.out.mono ?_; rintro e w' ⟨rfl, hw⟩; rw [hw]; clear hw))
      go_roundg (2 - (i + 1))
      case measure => omega
      case rel =>
        refine ⟨i + 1, some ⟨w6.heap.size, 0, none⟩, by omega, rfl, by go_num, rfl, hid_mk ⟨.inr ⟨w6.heap.size, rfl, ?_⟩, (H.out.2.1.kept G6.out (by simp)).kept (World.grownBy_alloc _ _ none) (by simp), ga (grown_trans H.out.2.2 G6.out) _⟩⟩
        rw [cell_of_row _ _ _ _ _ _ (heap_alloc_new w6 _)]; rfl
    · have hlt' : ¬ (i : Int) < 2 := by omega
      go_wp2_with (go_at_call 12; refine (knows_any _).mono ?_; rintro e w2 ⟨rfl, hg⟩; have HG := hid_mk hg; clear hg)
      go_ret
      exact ⟨rfl, grown_trans H.out.2.2 HG.out⟩
end Go.Proofs.Ytgebhomiehadmaa
