/- history: slices.Backward; late. -/
import Derived.Test.YthbfjpaimnhpgabHRg
namespace Go.Proofs.Ythbfjpaimnhpgab
open Go.RowKit Go.Maps
set_option linter.unusedVariables false
set_option linter.unusedSimpArgs false
set_option maxRecDepth 100000
attribute [local go_sem] Oper.semAt_some

/-- From the last call on. -/
def BackT (L : List CE) (k : Nat) (vs : Array Value) (W : World) : Prop := ∃ (i : Nat) (x : CE) (xa : Option Addr) (xn xc : Nat) (ra : Option Addr) (rn rc : Nat), i + k + 1 = L.length ∧ L[i]? = some x ∧ vs = #[.int .i64 i, .agg #[.int .i64 x.g.c, .int .i64 x.g.b, .int .i64 x.g.e, .int .i64 x.g.k, .int .i64 x.g.at', .bool x.g.an, .int .i64 x.g.fr, .int .i64 x.g.mo, .int .i64 x.g.nu, .int .i64 x.g.st, .slice xa xn xc, .slice ra rn rc]]
set_option maxHeartbeats 4000000 in
theorem back_in (l B Bb : Nat) (v : Value) (L : List CE) (hl : L.length ≤ 1099511627776) (J : Nat → World → Prop) (JX : World → Prop) (hJD : ∀ k W, J k W → W.cell? ⟨Bb, 0, none⟩ = some v ∧ CsR W v L)
    (hJg : ∀ k W W' row, J k W → W.grownBy W' row → BkF B W row → J k W')
    (hY : ∀ k vs W, J k W → BackT L k vs W → YieldAt Fence.wide 9 Try.prog l vs W fun e W' => (e = .returned (.bool true) ∧ J (k + 1) W') ∨ (e = .returned (.bool false) ∧ JX W')) (W : World) (h0 : J 0 W) :
    CallsIn Fence.wide 10 Try.prog 30 #[.func (.yield l) #[] #[], .pointer (some ⟨Bb, 0, none⟩)] W fun e W' => (∃ v, e = .returned v) ∧ (J L.length W' ∨ JX W') := by
  obtain ⟨q0, hr0⟩ := hJD 0 W h0
  obtain ⟨a, cap, hv⟩ := hr0.len
  have HJD := hid_mk hJD
  have HY := hid_mk hY
  have HJ0 := hid_mk h0
  have HV := hid_mk hv
  rw [hv] at q0
  clear hJD hJg hY h0 hr0 hv
  refine callsIn_of_wp Try.func30 rfl trivial ?_ rfl
  simp only [Try.ntmps30, List.size_toArray, List.length_cons, List.length_nil, Nat.reduceAdd, Nat.reduceSub, Array.replicate_succ, Array.replicate_zero, List.push_toArray, List.append_toArray, List.nil_append, List.cons_append]
  obtain ⟨K, hK⟩ : ∃ K, K = L.length := ⟨_, rfl⟩
  rw [← hK] at hl q0 HV ⊢
  have HK := hid_mk hK
  clear hK
  gi_wp2
  clear q0
  gi_loopw [3] (fun iv wr => ∃ s : Nat, s ≤ K ∧ iv = .int .i64 ((K : Int) - 1 - s) ∧ Hid (J s wr)) (fun iv _ => (intOf iv + 1).toNat)
  case atStart => exact ⟨0, Nat.zero_le _, by simp, HJ0⟩
  case round =>
    clear HJ0
    obtain ⟨s, hs, rfl, HJ⟩ := hrel
    rename World => wr
    by_cases hlt : s < K
    · obtain ⟨p, hp⟩ : ∃ p, p + s + 1 = K := ⟨K - 1 - s, by omega⟩
      rw [show (K : Int) - 1 - s = (p : Int) by omega]
      obtain ⟨q0, hrow⟩ := HJD.out s wr HJ.out
      have hpk : p < L.length := by rw [← HK.out]; omega
      obtain ⟨lb, off, cap2, he, hc⟩ := hrow.cells hpk
      rw [HV.out, ← HK.out] at he
      rw [HV.out] at q0
      injection he with e1 e2 e3
      subst e1
      obtain ⟨d0, d1, d2, d3, d4, d5, d6, d7, d8, d9, d10, d11⟩ := hc wr (grown_refl _ _)
      obtain ⟨⟨xa, xn, xc, hxd⟩, ⟨ra, rn, rc, hxr⟩⟩ := hrow.sl _ (List.getElem_mem hpk)
      rw [hxd] at d10
      rw [hxr] at d11
      have hyy := HY.out s #[.int .i64 p, .agg #[.int .i64 L[p].g.c, .int .i64 L[p].g.b, .int .i64 L[p].g.e, .int .i64 L[p].g.k, .int .i64 L[p].g.at', .bool L[p].g.an, .int .i64 L[p].g.fr, .int .i64 L[p].g.mo, .int .i64 L[p].g.nu, .int .i64 L[p].g.st, .slice xa xn xc, .slice ra rn rc]] wr HJ.out ⟨p, L[p], xa, xn, xc, ra, rn, rc, by rw [← HK.out]; omega, List.getElem?_eq_getElem hpk, rfl⟩
      clear hc hxd hxr hrow e2 e3
      generalize L[p] = x at *
      obtain ⟨fn, tmps, assign, body, hy, hR⟩ := hyy
      have hpK : p < K := by omega
      gi_wp2
      refine hR.mono ?_
      rintro e W3 (⟨rfl, hJ3⟩ | ⟨rfl, hX3⟩)
      · have HJ3 := hid_mk hJ3
        clear hR hy hJ3 q0 HJ d0 d1 d2 d3 d4 d5 d6 d7 d8 d9 d10 d11
        gi_wp2
        go_roundw
        case rel => exact ⟨s + 1, by omega, by first | rfl | (congr 1; done) | (congr 1; omega), HJ3⟩
        case measure => simp [intOf]
      · have HX3 := hid_mk hX3
        clear hR hy hX3 q0 HJ d0 d1 d2 d3 d4 d5 d6 d7 d8 d9 d10 d11
        gi_wp2
        refine bodyPost_ret (results_none rfl _ _ _) rfl ?_
        exact ⟨⟨_, rfl⟩, .inr HX3.out⟩
    · have hsK : s = K := by omega
      have hneg : ¬ (0 ≤ (K : Int) - 1 - s) := by omega
      have HJK := hid_mk (show J K wr by rw [← hsK]; exact HJ.out)
      gi_wp2
      refine bodyPost_end (results_none rfl _ _ _) rfl ?_
      exact ⟨⟨_, rfl⟩, .inl HJK.out⟩
theorem back_seq (p : Nat) (v : Value) (L : List CE) (hl : L.length ≤ 1099511627776) : SeqT 30 #[.pointer (some ⟨p, 0, none⟩)] (fun W => W.cell? ⟨p, 0, none⟩ = some v ∧ CsR W v L) (BackT L) L.length :=
  ⟨enters_of Try.func30 (by kernel_rfl) rfl, fun l B J JX hJD hJg hXg hY W h0 _ => back_in l B p v L hl J JX hJD hJg hY W h0⟩
theorem backward_any (a : Option Addr) (n c : Nat) (w : World) : Calls Try.prog 19 #[.slice a n c] w fun e w' => e = .returned (.func (.func 30) #[] #[.pointer (some ⟨w.heap.size, 0, none⟩)]) ∧ Boxed w' w.heap.size 31 (.slice a n c) ∧ w.grownBy w' none := by
  have HB := hid_mk (Boxed.new w 31 (.slice a n c))
  have HG := hid_mk (World.grownBy_alloc w (.cells #[.slice a n c] 31) none)
  go_enter Try.func19, Try.ntmps19
  go_wp2
  go_ret
  exact ⟨rfl, HB.out, HG.out⟩
/-- late, from behind: the first place found so far, the first end of all behind. -/
def lateS : Nat → List Ca → Int × Int
  | _, [] => (-1, 1099511627776)
  | base, x :: l => (if (lateS (base + 1) l).2 < x.b then (base : Int) else (lateS (base + 1) l).1, if x.an then min (lateS (base + 1) l).2 x.e else (lateS (base + 1) l).2)
def lateI (l : List Ca) : Int := match lateG l with | some i => (i : Int) | none => -1
theorem lateS_end : ∀ (l : List Ca) (base : Nat) (z : Int), z ≤ 1099511627776 → ((lateS base l).2 < z ↔ l.any (fun y => y.an && decide (y.e < z)) = true)
  | [], base, z, hz => by simp [lateS]; omega
  | x :: l, base, z, hz => by
    have ih := lateS_end l (base + 1) z hz
    rw [List.any_cons, Bool.or_eq_true, ← ih]
    simp only [lateS]
    cases x.an
    · simp
    · simp; omega
theorem lateS_place : ∀ (l : List Ca) (base : Nat), (∀ x ∈ l, x.b < 1099511627776) → (lateS base l).1 = (match lateG l with | some i => ((base + i : Nat) : Int) | none => -1)
  | [], base, _ => rfl
  | x :: l, base, h => by
    have ih := lateS_place l (base + 1) (fun y hy => h y (by simp [hy]))
    have he := lateS_end l (base + 1) x.b (by have := h x (by simp); omega)
    simp only [lateS, lateG]
    by_cases hc : l.any (fun y => y.an && decide (y.e < x.b)) = true
    · rw [if_pos (he.2 hc), if_pos hc]; simp
    · rw [if_neg (fun h2 => hc (he.1 h2)), if_neg hc, ih]
      cases lateG l with
      | none => rfl
      | some i =>
        show ((base + 1 + i : Nat) : Int) = ((base + (i + 1) : Nat) : Int)
        congr 1
        omega
theorem lateS_all (l : List Ca) (h : ∀ x ∈ l, x.b < 1099511627776) : (lateS 0 l).1 = lateI l := by
  rw [lateS_place l 0 h]; unfold lateI; cases lateG l <;> simp
/-- How a round begins: what is told in a box of its own, the loop's record turned. -/
theorem round_in (W : World) (C : Array Value) (t : TypeId) (l : Nat) (o' : Obj) {r : Loop} (hr : W.heap[l]? = some (.loop r)) :
    Blk ((W.alloc (.cells C t)).putObj l o') W.heap.size C t ∧ W.grownBy ((W.alloc (.cells C t)).putObj l o') (some l) ∧ ((W.alloc (.cells C t)).putObj l o').heap.size = W.heap.size + 1 ∧ ((W.alloc (.cells C t)).putObj l o').heap[l]? = some o' := by
  have hlt : l < W.heap.size := (Array.getElem?_eq_some_iff.1 hr).1
  have gp := grownBy_putObj' (W.alloc (.cells C t)) l o'
  refine ⟨(gp.block _ (by simp) (by simp; omega)).trans (heap_alloc_new _ _), grown_trans (World.grownBy_alloc W _ _) gp, by simp [World.putObj], World.putObj_heap_same (by rw [World.size_alloc]; omega)⟩
/-- Where late stands. -/
structure LatI (w : World) (p3 p4 Bb : Nat) (v : Value) (L : List CE) (k : Nat) (W : World) : Prop where
  gr : w.grownBy W none
  box : Boxed W Bb 31 v
  pl : Boxed W p3 3 (.int .i64 (lateS (L.length - k) ((gs L).drop (L.length - k))).1)
  en : Boxed W p4 3 (.int .i64 (lateS (L.length - k) ((gs L).drop (L.length - k))).2)
theorem lateS_next {L : List CE} {i k : Nat} {x : CE} (hi : i + k + 1 = L.length) (hx : L[i]? = some x) : lateS (L.length - (k + 1)) ((gs L).drop (L.length - (k + 1))) = (if (lateS (L.length - k) ((gs L).drop (L.length - k))).2 < x.g.b then (i : Int) else (lateS (L.length - k) ((gs L).drop (L.length - k))).1, if x.g.an then min (lateS (L.length - k) ((gs L).drop (L.length - k))).2 x.g.e else (lateS (L.length - k) ((gs L).drop (L.length - k))).2) := by
  obtain ⟨hlt, rfl⟩ := List.getElem?_eq_some_iff.1 hx
  rw [show L.length - (k + 1) = i by omega, show L.length - k = i + 1 by omega, List.drop_eq_getElem_cons (show i < (gs L).length by simp [gs]; exact hlt)]
  have hg : (gs L)[i]'(by simp [gs]; exact hlt) = L[i].g := by simp [gs]
  simp only [lateS, hg]
set_option maxHeartbeats 4000000 in
theorem late_any {w : World} {v : Value} {L : List CE} (h : CsR w v L) (hl : L.length ≤ 1099511627776) (hb : ∀ x ∈ gs L, x.b < 1099511627776) : Calls Try.prog 13 #[v] w fun e w' => e = .returned (.int .i64 (lateI (gs L))) ∧ w.grownBy w' none := by
  rw [← lateS_all _ hb]
  obtain ⟨a, c, rfl⟩ := h.len
  have HL := hid_mk h
  clear h hb
  refine (callsIn_wide (n := 11)).1 ?_
  refine callsIn_of_wp_marks Try.func13 rfl trivial ?_ rfl
  simp only [Try.ntmps13, List.size_toArray, List.length_cons, List.length_nil, Nat.reduceAdd, Nat.reduceSub, Array.replicate_succ, Array.replicate_zero, List.push_toArray, List.append_toArray, List.nil_append, List.cons_append]
  have HA := hid_mk (show Boxed ((w.alloc (.cells #[.int .i64 (-1)] 3)).alloc (.cells #[.int .i64 1099511627776] 3)) w.heap.size 3 (.int .i64 (-1)) ∧ Boxed ((w.alloc (.cells #[.int .i64 (-1)] 3)).alloc (.cells #[.int .i64 1099511627776] 3)) (w.heap.size + 1) 3 (.int .i64 1099511627776) ∧ w.grownBy ((w.alloc (.cells #[.int .i64 (-1)] 3)).alloc (.cells #[.int .i64 1099511627776] 3)) none from by
    have h1 := Boxed.new w 3 (.int .i64 (-1))
    have h2 := Boxed.new (w.alloc (.cells #[.int .i64 (-1)] 3)) 3 (.int .i64 1099511627776)
    rw [World.size_alloc] at h2
    exact ⟨h1.alloc _, h2, grown_trans (World.grownBy_alloc _ _ none) (World.grownBy_alloc _ _ none)⟩)
  gi_upto_region 2 with fail
  generalize (w.alloc (.cells #[.int .i64 (-1)] 3)).alloc (.cells #[.int .i64 1099511627776] 3) = w1 at *
  obtain ⟨p4, hp4⟩ : ∃ p, p = w.heap.size + 1 := ⟨_, rfl⟩
  obtain ⟨p3, hp3⟩ : ∃ p, p = w.heap.size := ⟨_, rfl⟩
  rw [← hp4, ← hp3] at HA ⊢
  have HP := hid_mk (show p3 ≠ p4 ∧ w.heap.size ≤ p3 ∧ w.heap.size ≤ p4 ∧ p3 < w1.heap.size ∧ p4 < w1.heap.size from ⟨by omega, by omega, by omega, HA.out.1.lt, HA.out.2.1.lt⟩)
  clear hp3 hp4
  gi_wp2_with fail
  refine ⟨trivial, (callsIn_wide.2 (backward_any a L.length c w1)).mono ?_⟩
  rintro e w2 ⟨rfl, hbx, hg2⟩
  have hs2 : w1.heap.size < w2.heap.size := hbx.lt
  obtain ⟨Bb, hBb⟩ : ∃ b, b = w1.heap.size := ⟨_, rfl⟩
  rw [← hBb] at hbx hs2 ⊢
  have H2 := hid_mk (show LatI w p3 p4 Bb (.slice a L.length c) L 0 w2 from ⟨grown_trans HA.out.2.2 hg2, hbx, by rw [List.drop_eq_nil_of_le (by simp [gs])]; exact HA.out.1.kept hg2 (by simp), by rw [List.drop_eq_nil_of_le (by simp [gs])]; exact HA.out.2.1.kept hg2 (by simp)⟩)
  have HQ := hid_mk (show p3 ≠ p4 ∧ w.heap.size ≤ p3 ∧ w.heap.size ≤ p4 ∧ p3 < Bb ∧ p4 < Bb ∧ Bb < w2.heap.size from by have := HP.out; omega)
  clear hBb HP HA hbx hg2 hs2
  gi_wp2_with fail
  refine range_seq (back_seq Bb (.slice a L.length c) L hl) rfl ?size (LatI w p3 p4 Bb (.slice a L.length c) L) (fun k W h => ⟨h.box.cell, HL.out.kept h.gr⟩) ?clI (fun _ _ => False) (fun _ _ _ _ h => h.elim) H2.out ?body ?done (fun _ _ _ _ h => h.elim)
  case size => rintro k vs W ⟨i, x, xa, xn, xc, ra, rn, rc, _, _, rfl⟩; rfl
  case clI =>
    intro k X Y row h hg hbk
    have hq := HQ.out
    exact ⟨hbk.grown h.gr hg (by omega), boxed_low h.box hg hbk (by omega), boxed_low h.pl hg hbk (by omega), boxed_low h.en hg hbk (by omega)⟩
  case done =>
    intro D0 W2 hD hI hK
    have hq := HQ.out
    have HX := hid_mk (show w.grownBy W2 none ∧ W2.heap[D0]? = some (.deferred (some [])) ∧ w.heap.size ≤ D0 from ⟨hI.gr, hK, by omega⟩)
    have c3 := hI.pl.cell
    rw [Nat.sub_self, List.drop_zero] at c3
    clear hI hK hD hq
    gi_wp2_with fail
    have g2 := grownBy_putObj' W2 D0 (.deferred none)
    refine ⟨by simp, .inl ⟨_, _, rfl, run_takeDeferred HX.out.2.1, ?_⟩⟩
    exact ⟨_, results_tmp rfl _ _ _, rfl, grown_new HX.out.1 g2 HX.out.2.2⟩
  case body =>
    rintro l2 k vs W2 rfl hsz hI ⟨i, x, xa, xn, xc, ra, rn, rc, hi, hx, rfl⟩ hdf r hr
    have HI := hid_mk (And.intro hsz (And.intro hI (And.intro hi (And.intro hx (And.intro hdf hr)))))
    clear hsz hI hi hx hdf hr
    have HA := hid_mk (World.grownBy_alloc W2 (.cells #[.int .i64 x.g.c, .int .i64 x.g.b, .int .i64 x.g.e, .int .i64 x.g.k, .int .i64 x.g.at', .bool x.g.an, .int .i64 x.g.fr, .int .i64 x.g.mo, .int .i64 x.g.nu, .int .i64 x.g.st, .slice xa xn xc, .slice ra rn rc] 42) none)
    gi_wp2
    refine ⟨BkB.none HA.out HI.out.1, fun o' ho' => ?_⟩
    have HY := hid_mk (round_in W2 #[.int .i64 x.g.c, .int .i64 x.g.b, .int .i64 x.g.e, .int .i64 x.g.k, .int .i64 x.g.at', .bool x.g.an, .int .i64 x.g.fr, .int .i64 x.g.mo, .int .i64 x.g.nu, .int .i64 x.g.st, .slice xa xn xc, .slice ra rn rc] 42 (w2.heap.size + 1) o' HI.out.2.2.2.2.2)
    clear HA
    generalize (W2.alloc (.cells #[.int .i64 x.g.c, .int .i64 x.g.b, .int .i64 x.g.e, .int .i64 x.g.k, .int .i64 x.g.at', .bool x.g.an, .int .i64 x.g.fr, .int .i64 x.g.mo, .int .i64 x.g.nu, .int .i64 x.g.st, .slice xa xn xc, .slice ra rn rc] 42)).putObj (w2.heap.size + 1) o' = Y at *
    have HP := hid_mk (show LatI w p3 p4 Bb (.slice a L.length c) L k Y ∧ w2.heap.size + 2 ≤ Y.heap.size from by
      obtain ⟨q1, q2, q3, q4, q5, q6⟩ := HI.out
      obtain ⟨y1, y2, y3, y4⟩ := HY.out
      have hq := HQ.out
      have hbk : BkF w2.heap.size W2 (some (w2.heap.size + 1)) := fun r e => by cases e; exact ⟨by omega, _, q6, .inl (.inl ⟨_, rfl⟩)⟩
      exact ⟨⟨hbk.grown q2.gr y2 (by omega), boxed_low q2.box y2 hbk (by omega), boxed_low q2.pl y2 hbk (by omega), boxed_low q2.en y2 hbk (by omega)⟩, by omega⟩)
    have HNX := hid_mk (lateS_next HI.out.2.2.1 HI.out.2.2.2.1)
    have HEB := hid_mk (And.intro HY.out.1 (show W2.heap.size ≠ p4 ∧ W2.heap.size ≠ p3 ∧ w2.heap.size ≤ W2.heap.size from by have := HI.out.1; have := HQ.out; omega))
    obtain ⟨gr, hgr⟩ : ∃ gr, gr = W2.heap.size := ⟨_, rfl⟩
    rw [← hgr] at HEB ⊢
    clear hgr HY HI
    obtain ⟨f0, f1, f2, f3, f4, f5, f6, f7, f8, f9, f10, f11, ff⟩ := blk12 HEB.out.1
    clear f0 f3 f4 f6 f7 f8 f9 f10 f11
    have c3 := HP.out.1.pl.cell
    have c4 := HP.out.1.en.cell
    have z3 := HP.out.1.pl.frozen
    have z4 := HP.out.1.en.frozen
    have HB3 := hid_mk (And.intro HP.out.1.pl HP.out.1.en)
    obtain ⟨PL, hPL⟩ : ∃ PL, PL = (lateS (L.length - k) ((gs L).drop (L.length - k))).1 := ⟨_, rfl⟩
    obtain ⟨EN, hEN⟩ : ∃ EN, EN = (lateS (L.length - k) ((gs L).drop (L.length - k))).2 := ⟨_, rfl⟩
    rw [← hPL, ← hEN] at HNX HB3
    rw [← hPL] at c3
    rw [← hEN] at c4
    clear hPL hEN
    -- what is left to say of the two boxes
    have HF := hid_mk (show ∀ Y' : World, Y.grownBy Y' (some p3) ∨ Y.grownBy Y' (some p4) ∨ (∃ Y1, Y.grownBy Y1 (some p3) ∧ Y1.grownBy Y' (some p4)) ∨ Y' = Y → Boxed Y' p3 3 (.int .i64 (if EN < x.g.b then (i : Int) else PL)) → Boxed Y' p4 3 (.int .i64 (if x.g.an then min EN x.g.e else EN)) → BkB w2.heap.size Y Y' ∧ LatI w p3 p4 Bb (.slice a L.length c) L (k + 1) Y' from by
      intro Y' hg hb3 hb4
      have hq := HQ.out
      have hsz := HP.out.2
      obtain ⟨q1, q2, q3, q4⟩ := HP.out.1
      have hbl := q2.lt
      have hkey : ∀ (A B : World) (r : Nat), A.grownBy B (some r) → (r = p3 ∨ r = p4) → w2.heap.size + 2 ≤ A.heap.size → BkB w2.heap.size A B ∧ (Boxed A Bb 31 (.slice a L.length c) → Boxed B Bb 31 (.slice a L.length c)) ∧ (w.grownBy A none → w.grownBy B none) := by
        intro A B r g hr hs
        have h1 : r < Bb := by rcases hr with rfl | rfl <;> omega
        have h2 : w.heap.size ≤ r := by rcases hr with rfl | rfl <;> omega
        exact ⟨⟨g.block _ (by omega) (by simp; omega), g.block _ (by omega) (by simp; omega)⟩, fun h => h.kept g (by simp; omega), fun h => grown_new h g h2⟩
      have hfin : BkB w2.heap.size Y Y' ∧ Boxed Y' Bb 31 (.slice a L.length c) ∧ w.grownBy Y' none := by
        rcases hg with g | g | ⟨Y1, g, g'⟩ | rfl
        · have := hkey _ _ _ g (.inl rfl) hsz; exact ⟨this.1, this.2.1 q2, this.2.2 q1⟩
        · have := hkey _ _ _ g (.inr rfl) hsz; exact ⟨this.1, this.2.1 q2, this.2.2 q1⟩
        · have h1 := hkey _ _ _ g (.inl rfl) hsz
          have h2 := hkey _ _ _ g' (.inr rfl) (Nat.le_trans hsz g.size)
          exact ⟨h1.1.trans h2.1, h2.2.1 (h1.2.1 q2), h2.2.2 (h1.2.2 q1)⟩
        · exact ⟨⟨rfl, rfl⟩, q2, q1⟩
      exact ⟨hfin.1, hfin.2.2, hfin.2.1, by rw [HNX.out]; exact hb3, by rw [HNX.out]; exact hb4⟩)
    clear HP HNX
    by_cases hlt : EN < x.g.b
    · have HG := hid_mk (grown_setCell Y p3 0 (.int .i64 i))
      have HB4 := hid_mk (show Boxed (Y.setCell ⟨p3, 0, none⟩ (.int .i64 i)) p3 3 (.int .i64 i) ∧ Boxed (Y.setCell ⟨p3, 0, none⟩ (.int .i64 i)) p4 3 (.int .i64 EN) from ⟨HB3.out.1.set _, HB3.out.2.kept HG.out (by have := HQ.out; simp; omega)⟩)
      have k4 := HB4.out.2.cell
      have k5 : (Y.setCell ⟨p3, 0, none⟩ (.int .i64 i)).cell? ⟨gr, 5, none⟩ = some (.bool x.g.an) := HG.out.cell f5 (by have := HEB.out.2; simp; omega)
      have k2 : (Y.setCell ⟨p3, 0, none⟩ (.int .i64 i)).cell? ⟨gr, 2, none⟩ = some (.int .i64 x.g.e) := HG.out.cell f2 (by have := HEB.out.2; simp; omega)
      have kz : (Y.setCell ⟨p3, 0, none⟩ (.int .i64 i)).frozen? ⟨p4, 0, none⟩ = false := HB4.out.2.frozen
      cases han : x.g.an
      · rw [han] at f5 k5
        gi_wp2_with fail
        have h9 := HF.out _ (.inl HG.out) (by rw [if_pos hlt]; exact HB4.out.1) (by rw [han]; exact HB4.out.2)
        exact ⟨h9.1, h9.2⟩
      · rw [han] at f5 k5
        gi_wp2_with fail
        have h9 := HF.out _ (.inr (.inr (.inl ⟨_, HG.out, grown_setCell _ p4 0 (.int .i64 (min EN x.g.e))⟩))) (by rw [if_pos hlt]; exact HB4.out.1.kept (grown_setCell _ p4 0 _) (by have := HQ.out; simp; omega)) (by rw [han]; exact HB4.out.2.set _)
        exact ⟨h9.1, h9.2⟩
    · cases han : x.g.an
      · rw [han] at f5
        gi_wp2_with fail
        have h9 := HF.out _ (.inr (.inr (.inr rfl))) (by rw [if_neg (Int.not_lt.2 hlt)]; exact HB3.out.1) (by rw [han]; exact HB3.out.2)
        exact ⟨h9.1, h9.2⟩
      · rw [han] at f5
        gi_wp2_with fail
        have h9 := HF.out _ (.inr (.inl (grown_setCell _ p4 0 (.int .i64 (min EN x.g.e))))) (by rw [if_neg (Int.not_lt.2 hlt)]; exact HB3.out.1.kept (grown_setCell _ p4 0 _) (by have := HQ.out; simp; omega)) (by rw [han]; exact HB3.out.2.set _)
        exact ⟨h9.1, h9.2⟩
end Go.Proofs.Ythbfjpaimnhpgab
