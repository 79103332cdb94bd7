/- Peers: Heard. -/
import Derived.Test.YtinpcpojadcegaaPrA
namespace Go.Proofs.Ytinpcpojadcegaa.W
open Go.RowKit Go.Maps
set_option linter.unusedVariables false
set_option linter.unusedSimpArgs false
set_option maxRecDepth 100000
attribute [local go_sem] Oper.semAt_some

/-- A peer behind its answer. -/
def heardM (m : Int) (yes : Bool) (at_ last : Int) : Int := if tellsB yes at_ last then (if yes then max m at_ else m) else m
def heardN (n m : Int) (yes : Bool) (at_ last : Int) : Int := if tellsB yes at_ last then max (if yes then n else min n at_) (behZ (heardM m yes at_ last)) else n
theorem heard_no {n m : Int} {yes : Bool} {at_ last : Int} (h : tellsB yes at_ last = false) : heardM m yes at_ last = m ∧ heardN n m yes at_ last = n := by
  unfold heardN heardM; rw [h]; exact ⟨rfl, rfl⟩
theorem tells_at {yes : Bool} {at_ last : Int} (h : tellsB yes at_ last = true) : 0 ≤ at_ ∧ at_ - 1 ≤ last ∧ (yes = true → at_ ≤ last) := by
  simp [tellsB] at h
  refine ⟨by omega, by omega, fun hy => by have := h.2; rw [hy] at this; simpa using this⟩
theorem heard_tells {n m : Int} {yes : Bool} {at_ last : Int} (hn : J64 n) (hm : J64 m) (ha : J64 at_) (h : tellsB yes at_ last = true) :
    heardM m yes at_ last = max m (bndM yes at_ last) ∧ heardN n m yes at_ last = max (min n (bndN yes at_ last)) (behZ (max m (bndM yes at_ last))) ∧ ¬ (bndN yes at_ last = 0 ∧ bndM yes at_ last = 0) ∧ J64 (bndN yes at_ last) ∧ J64 (bndM yes at_ last) := by
  unfold J64 at *
  unfold heardN heardM bndN bndM
  rw [h]
  have ht := tells_at h
  have h1 := ht.1
  cases yes with
  | false =>
    simp only [if_true, Bool.false_eq_true, if_false]
    rw [show max m (-9223372036854775808) = m by omega]
    exact ⟨rfl, rfl, by omega, ha, by omega⟩
  | true =>
    simp only [if_true]
    rw [show min n 9223372036854775807 = n by omega]
    exact ⟨trivial, rfl, by omega, by omega, ha⟩
set_option maxHeartbeats 4000000 in
theorem heard_any (n m : Int) (yes : Bool) (at_ last : Int) (hn : J64 n) (hm : J64 m) (ha : J64 at_) (hl : J64 last) (w : World) :
    Calls Try.prog 17 #[peerV n m, .bool yes, .int .i64 at_, .int .i64 last] w fun e w' => e = .returned (peerV (heardN n m yes at_ last) (heardM m yes at_ last)) ∧ w.grownBy w' none := by
  have hV : peerV n m = .agg #[.int .i64 n, .int .i64 m] := rfl
  have HV := hid_mk hV
  rw [hV]
  clear hV
  have HA := hid_mk (show PB ((w.alloc (.cells #[.int .i64 n, .int .i64 m] 42)).alloc (.cells #[.int .i64 0, .int .i64 0] 42)) w.heap.size n m ∧ PB ((w.alloc (.cells #[.int .i64 n, .int .i64 m] 42)).alloc (.cells #[.int .i64 0, .int .i64 0] 42)) (w.heap.size + 1) 0 0 ∧ w.grownBy ((w.alloc (.cells #[.int .i64 n, .int .i64 m] 42)).alloc (.cells #[.int .i64 0, .int .i64 0] 42)) none ∧ ((w.alloc (.cells #[.int .i64 n, .int .i64 m] 42)).alloc (.cells #[.int .i64 0, .int .i64 0] 42)).heap.size = w.heap.size + 2 from by
    refine ⟨(PB.new w n m).kept (World.grownBy_alloc _ _ none) (by simp), ?_, grown_trans (World.grownBy_alloc _ _ none) (World.grownBy_alloc _ _ none), by simp⟩
    have := PB.new (w.alloc (.cells #[.int .i64 n, .int .i64 m] 42)) 0 0
    simpa using this)
  go_enter Try.func17, Try.ntmps17
  go_upto_region 1 with fail
  generalize (w.alloc (.cells #[.int .i64 n, .int .i64 m] 42)).alloc (.cells #[.int .i64 0, .int .i64 0] 42) = w1 at *
  go_wp2_with fail
  refine (bounds_any yes at_ last ha hl w1).mono ?_
  rintro e w2 ⟨rfl, hg⟩
  have hT : peerV (bndN yes at_ last) (bndM yes at_ last) = .agg #[.int .i64 (bndN yes at_ last), .int .i64 (bndM yes at_ last)] := rfl
  rw [hT]
  clear hT
  obtain ⟨tn, htn⟩ : ∃ tn, tn = bndN yes at_ last := ⟨_, rfl⟩
  obtain ⟨tm, htm⟩ : ∃ tm, tm = bndM yes at_ last := ⟨_, rfl⟩
  rw [← htn, ← htm]
  have HT := hid_mk (And.intro htn htm)
  have HJ := hid_mk (And.intro hn (And.intro hm (And.intro ha hl)))
  have H3 := hid_mk (show PB (w2.alloc (.cells #[.int .i64 tn, .int .i64 tm] 42)) w.heap.size n m ∧ PB (w2.alloc (.cells #[.int .i64 tn, .int .i64 tm] 42)) (w.heap.size + 1) 0 0 ∧ PB (w2.alloc (.cells #[.int .i64 tn, .int .i64 tm] 42)) w2.heap.size tn tm ∧ w.grownBy (w2.alloc (.cells #[.int .i64 tn, .int .i64 tm] 42)) none ∧ w.heap.size + 2 ≤ w2.heap.size from by
    obtain ⟨a1, a2, a3, a4⟩ := HA.out
    have hs := hg.size
    have g2 := World.grownBy_alloc w2 (.cells #[.int .i64 tn, .int .i64 tm] 42) none
    exact ⟨(a1.kept hg (by simp)).kept g2 (by simp), (a2.kept hg (by simp)).kept g2 (by simp), PB.new w2 tn tm, grown_trans (grown_trans a3 hg) g2, by omega⟩)
  clear hg htn htm hn hm ha hl HA
  go_upto_region 2 with fail
  generalize w2.alloc (.cells #[.int .i64 tn, .int .i64 tm] 42) = w3 at *
  obtain ⟨pt, hpt⟩ : ∃ pt, pt = w2.heap.size := ⟨_, rfl⟩
  rw [← hpt] at H3 ⊢
  clear hpt
  obtain ⟨c0, c1⟩ := H3.out.1.cells
  obtain ⟨d0, d1⟩ := H3.out.2.2.1.cells
  have HQ := fun W => eq42 tn tm 0 0 W
  cases ht : tellsB yes at_ last with
  | false =>
    have HB := hid_mk (bnd_no ht)
    have HR := hid_mk (heard_no (n := n) (m := m) ht)
    have hq : ∀ W, (Op.equalIn 10000 42 (.agg #[.int .i64 tn, .int .i64 tm]) (.agg #[.int .i64 0, .int .i64 0])).run Try.prog W = .ok true W := fun W => by rw [HQ W, decide_eq_true ⟨HT.out.1.trans HB.out.1, HT.out.2.trans HB.out.2⟩]
    clear HQ ht
    obtain ⟨r0, r1⟩ := H3.out.2.1.cells
    have z0 := H3.out.2.1.frozen (i := 0)
    have z1 := H3.out.2.1.frozen (i := 1)
    go_wp2_with fail
    obtain ⟨p1, p2⟩ := H3.out.2.1.put n m
    refine bodyPost_ret (ret_peer rfl _ _ _ _ _ rfl p1) rfl ?_
    exact ⟨peer_eq HR.out.2.symm HR.out.1.symm, grown_new H3.out.2.2.2.1 p2 (by omega)⟩
  | true =>
    obtain ⟨e1, e2, e3, e4, e5⟩ := heard_tells (n := n) (m := m) HJ.out.1 HJ.out.2.1 HJ.out.2.2.1 ht
    rw [← HT.out.1, ← HT.out.2] at e2 e3
    rw [← HT.out.2] at e1 e5
    rw [← HT.out.1] at e4
    have HR := hid_mk (And.intro e1 e2)
    have hq : ∀ W, (Op.equalIn 10000 42 (.agg #[.int .i64 tn, .int .i64 tm]) (.agg #[.int .i64 0, .int .i64 0])).run Try.prog W = .ok false W := fun W => by rw [HQ W, decide_eq_false e3]
    have HK := hid_mk (And.intro e4 e5)
    clear HQ ht e1 e2 e3 e4 e5
    have z0 := H3.out.1.frozen (i := 0)
    have z1 := H3.out.1.frozen (i := 1)
    obtain ⟨M, hM⟩ : ∃ M, M = max m tm := ⟨_, rfl⟩
    have hif : (if m < tm then tm else m) = M := by rw [hM]; split <;> omega
    rw [← hM] at HR
    have HMM := hid_mk hM
    clear hM
    go_upto_region 5 with fail
    have H4 := hid_mk (show PB (w3.setCell ⟨w.heap.size, 1, none⟩ (.int .i64 M)) w.heap.size n M ∧ PB (w3.setCell ⟨w.heap.size, 1, none⟩ (.int .i64 M)) (w.heap.size + 1) 0 0 ∧ PB (w3.setCell ⟨w.heap.size, 1, none⟩ (.int .i64 M)) pt tn tm ∧ w.grownBy (w3.setCell ⟨w.heap.size, 1, none⟩ (.int .i64 M)) none ∧ J64 M from by
      obtain ⟨a1, a2, a3, a4, a5⟩ := H3.out
      have g := grown_setCell w3 w.heap.size 1 (.int .i64 M)
      refine ⟨a1.set1 M, a2.kept g (by simp), a3.kept g (by simp; omega), grown_new a4 g (Nat.le_refl _), ?_⟩
      have h1 := HJ.out.2.1
      have h2 := HK.out.2
      have h3 := HMM.out
      unfold J64 at *
      omega)
    clear c0 c1 d0 d1 z0 z1 hq H3 hif
    obtain ⟨mn, hmn⟩ : ∃ mn, mn = min n tn := ⟨_, rfl⟩
    obtain ⟨NN, hN⟩ : ∃ NN, NN = max mn (behZ M) := ⟨_, rfl⟩
    rw [← hmn, ← hN] at HR
    have hif1 : (if tn < n then tn else n) = mn := by rw [hmn]; split <;> omega
    have hif2 : (if mn < behZ M then behZ M else mn) = NN := by rw [hN]; split <;> omega
    clear hmn hN
    generalize w3.setCell ⟨w.heap.size, 1, none⟩ (.int .i64 M) = w4 at *
    have HC : ∀ W, w4.grownBy W none → W.cell? ⟨w.heap.size, 0, none⟩ = some (.int .i64 n) ∧ W.cell? ⟨w.heap.size, 1, none⟩ = some (.int .i64 M) ∧ W.cell? ⟨pt, 0, none⟩ = some (.int .i64 tn) := fun W hW =>
      ⟨(H4.out.1.kept hW (by simp)).cells.1, (H4.out.1.kept hW (by simp)).cells.2, (H4.out.2.2.1.kept hW (by simp)).cells.1⟩
    refine wp_region_mixL [(0, true), (1, true), (2, true), (3, true), (4, true), (5, true), (6, true), (7, true), (8, true), (9, true)] 10 (at0 w4 (fun W => w4.grownBy W none)) (by kernel_rfl) (by kernel_rfl) rfl (by kernel_rfl) rfl (by kernel_rfl) (shut_at0 (fun m => grown_drewN _ m none)) ⟨1, rfl⟩ ?_
    repeat (refine mix_rd1 rfl rfl (fun K hK => ?_); apply Exists.intro; refine ⟨fun W hW => ?_, ?_⟩; (obtain ⟨c0, c1, c2⟩ := HC W hW; go_simp; rfl); (go_simp; refine hK _ _ ?_; clear hK K))
    refine mix_rdcall rfl rfl 35 #[.int .i64 M] (.int .i64 (behZ M)) (fun W => by go_simp) (fun W hW => (behind_any M H4.out.2.2.2.2 W).mono (by rintro e w' ⟨rfl, rfl⟩; exact ⟨rfl, 0, rfl⟩)) ?_
    repeat (refine mix_rd1 rfl rfl (fun K hK => ?_); apply Exists.intro; refine ⟨fun W hW => ?_, ?_⟩; (obtain ⟨c0, c1, c2⟩ := HC W hW; go_simp; rfl); (go_simp; refine hK _ _ ?_; clear hK K))
    refine mix_nil ?_
    refine ⟨rfl, ?_⟩
    rintro W ⟨m5, rfl⟩
    obtain ⟨c0, c1, c2⟩ := HC (w4.drewN m5) (grown_drewN _ m5 none)
    have z0 := (H4.out.1.kept (grown_drewN w4 m5 none) (by simp)).frozen (i := 0)
    refine ⟨(w4.drewN m5).setCell ⟨w.heap.size, 0, none⟩ (.int .i64 NN), by go_simp, ?_⟩
    have H5 := hid_mk (show PB ((w4.drewN m5).setCell ⟨w.heap.size, 0, none⟩ (.int .i64 NN)) w.heap.size NN M ∧ PB ((w4.drewN m5).setCell ⟨w.heap.size, 0, none⟩ (.int .i64 NN)) (w.heap.size + 1) 0 0 ∧ w.grownBy ((w4.drewN m5).setCell ⟨w.heap.size, 0, none⟩ (.int .i64 NN)) none from by
      obtain ⟨a1, a2, a3, a4, a5⟩ := H4.out
      have g1 := grown_drewN w4 m5 none
      have g := grown_setCell (w4.drewN m5) w.heap.size 0 (.int .i64 NN)
      exact ⟨(a1.kept g1 (by simp)).set0 NN, (a2.kept g1 (by simp)).kept g (by simp), grown_new (grown_trans a4 g1) g (Nat.le_refl _)⟩)
    clear c0 c1 c2 z0 HC H4 hif1 hif2
    generalize (w4.drewN m5).setCell ⟨w.heap.size, 0, none⟩ (.int .i64 NN) = w5 at *
    obtain ⟨c0, c1⟩ := H5.out.1.cells
    obtain ⟨r0, r1⟩ := H5.out.2.1.cells
    have z0 := H5.out.2.1.frozen (i := 0)
    have z1 := H5.out.2.1.frozen (i := 1)
    go_wp2_with fail
    obtain ⟨p1, p2⟩ := H5.out.2.1.put NN M
    refine bodyPost_ret (ret_peer rfl _ _ _ _ _ rfl p1) rfl ?_
    exact ⟨peer_eq HR.out.2.symm HR.out.1.symm, grown_new H5.out.2.2 p2 (by omega)⟩
end Go.Proofs.Ytinpcpojadcegaa.W
