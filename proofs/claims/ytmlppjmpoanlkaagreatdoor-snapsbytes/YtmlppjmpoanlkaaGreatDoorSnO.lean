/- snaps: removeOthers, the walk. -/
import Derived.Test.YtmlppjmpoanlkaaGreatDoorSnM
import Derived.Test.YtmlppjmpoanlkaaGreatDoorVKp
import Derived.Stop.RegionWithIn
namespace Go.Proofs.YtmlppjmpoanlkaaGreatDoor.W
open Go.RowKit Go.Maps Go.Shelf
set_option linter.unusedVariables false
set_option linter.unusedSimpArgs false
set_option maxRecDepth 100000
attribute [local go_sem] Oper.semAt_some

theorem rb_new (w : World) (b : Nat) (but : Int) : RB w (((w.alloc (.cells #[.pointer (some ⟨b, 0, none⟩)] 43)).alloc (.cells #[.int .i64 but] 3)).alloc (.cells #[.int .i64 0] 29)) b but 0 ∧ w.grownBy (((w.alloc (.cells #[.pointer (some ⟨b, 0, none⟩)] 43)).alloc (.cells #[.int .i64 but] 3)).alloc (.cells #[.int .i64 0] 29)) none := by
  have b1 := heap_alloc_new w (.cells #[.pointer (some ⟨b, 0, none⟩)] 43)
  have b2 := heap_alloc_new (w.alloc (.cells #[.pointer (some ⟨b, 0, none⟩)] 43)) (.cells #[.int .i64 but] 3)
  have b3 := heap_alloc_new ((w.alloc (.cells #[.pointer (some ⟨b, 0, none⟩)] 43)).alloc (.cells #[.int .i64 but] 3)) (.cells #[.int .i64 0] 29)
  have g1 := World.grownBy_alloc w (.cells #[.pointer (some ⟨b, 0, none⟩)] 43) none
  have g2 := World.grownBy_alloc (w.alloc (.cells #[.pointer (some ⟨b, 0, none⟩)] 43)) (.cells #[.int .i64 but] 3) none
  have g3 := World.grownBy_alloc ((w.alloc (.cells #[.pointer (some ⟨b, 0, none⟩)] 43)).alloc (.cells #[.int .i64 but] 3)) (.cells #[.int .i64 0] 29) none
  simp only [World.size_alloc] at b2 b3
  exact ⟨⟨V.Blk.kept (V.Blk.kept b1 g2 (by simp)) g3 (by simp), V.Blk.kept b2 g3 (by simp), b3⟩, grown_trans g1 (grown_trans g2 g3)⟩
theorem ret_one {tmps : Array Value} {w W : World} {b : Nat} {but ev : Int} (h : RB w W b but ev) (h3 : tmps.getD 4 undef = .pointer (some ⟨w.heap.size + 2, 0, none⟩)) (hr : Tryz.f57.results = #[.cell 4 29]) :
    (results Tryz.f57 tmps).run Tryz.prog W = .ok (.int .i64 ev) W := by
  obtain ⟨_, _, e0, _⟩ := h.cells
  have r3 : (loadVar 29 ⟨w.heap.size + 2, 0, none⟩).run Tryz.prog W = .ok (.int .i64 ev) W := by simp [loadVar, go_sem, e0]
  simp only [results, hr]
  have h3' : tmps[4]?.getD undef = .pointer (some ⟨w.heap.size + 2, 0, none⟩) := by simpa using h3
  simp [h3', asAddr, Sem.run_bind, Result.andThen, r3]

set_option maxHeartbeats 4000000 in
theorem removeOthers_any (N b but : Nat) (Z : Nat → Prop) (m : V.Mem) (w : World) (h : V.IsDisk w Z N b m) (hN : N + (idxs (V.sortedKeys m.names)).length < 1099511627776) (hnm : ∀ k ∈ V.sortedKeys m.names, NameOk k) (hbut : but < 9223372036854775807) (hp : Pw w) (hz1 : ¬ Z 1) :
    Calls Tryz.prog 57 #[.pointer (some ⟨b, 0, none⟩), .int .i64 but] w fun e w' => ∃ n m', e = .returned (.int .i64 n) ∧ RemS but (idxs (V.sortedKeys m.names)) m n m' ∧ V.IsDisk w' (fun k => Z k ∨ w.heap.size ≤ k) (N + (idxs (V.sortedKeys m.names)).length) b m' ∧ V.Keeps Z w w' := by
  have HD := hid_mk h.bound
  have HL := hid_mk (rb_new w b but)
  have HP := hid_mk (And.intro hp (And.intro hz1 hnm))
  obtain ⟨Z0, hZ0⟩ : ∃ Z0 : Nat → Prop, Z0 = fun k => Z k ∧ k < w.heap.size := ⟨_, rfl⟩
  rw [← hZ0] at HD
  have HZ0 := hid_mk hZ0
  have hZl : ∀ k, Z0 k → Z k ∧ k < w.heap.size := fun k hk => by rw [hZ0] at hk; exact hk
  have HZL := hid_mk hZl
  clear h hp hz1 hnm hZ0 hZl
  obtain ⟨is, his⟩ : ∃ is, is = idxs (V.sortedKeys m.names) := ⟨_, rfl⟩
  rw [← his] at hN ⊢
  have HIS := hid_mk his
  clear his
  refine (callsIn_wide (n := 11)).1 ?_
  refine callsIn_of_wp_marks Tryz.func57 rfl trivial ?_ rfl
  simp only [Tryz.ntmps57, List.size_toArray, List.length_cons, List.length_nil, Nat.reduceAdd, Nat.reduceSub, Array.replicate_succ, Array.replicate_zero, List.push_toArray, List.append_toArray, List.nil_append, List.cons_append]
  gi_wp2_with fail
  generalize (((w.alloc (.cells #[.pointer (some ⟨b, 0, none⟩)] 43)).alloc (.cells #[.int .i64 but] 3)).alloc (.cells #[.int .i64 0] 29)) = w1 at *
  refine ⟨trivial, (backward_in _ b w1).mono ?_⟩
  rintro e w2 ⟨rfl, hw2⟩
  have H2 := hid_mk (show RB w w2 b but 0 ∧ V.Blk w2 w1.heap.size #[.pointer (some ⟨b, 0, none⟩)] 43 ∧ w.grownBy w2 none ∧ w.heap.size + 3 ≤ w1.heap.size ∧ w1.heap.size < w2.heap.size by
    have hb : V.Blk w2 w1.heap.size #[.pointer (some ⟨b, 0, none⟩)] 43 := by rw [hw2]; exact heap_alloc_new _ _
    have hg : w1.grownBy w2 none := by rw [hw2]; exact World.grownBy_alloc _ _ none
    exact ⟨HL.out.1.kept hg (fun r e => by cases e), hb, grown_trans HL.out.2 hg, V.Blk.lt HL.out.1.be, V.Blk.lt hb⟩)
  clear hw2 HL
  gi_wp2_with fail
  refine F.range_gen rfl (by decide) (gf := 88) (lb := #[.pointer (some ⟨w1.heap.size, 0, none⟩)]) rfl trivial (enters_of Tryz.func88 (by kernel_rfl) rfl)
    (fun (s : Nat × Nat) W => (∃ m', RemTo but (is.take s.1) m m' ∧ V.IsDisk W (fun k => Z0 k ∨ (0 < s.1 ∧ s.2 ≤ k)) (N + s.1) b m') ∧ V.Keeps Z0 w W ∧ RB w W b but 0 ∧ V.Blk W w1.heap.size #[.pointer (some ⟨b, 0, none⟩)] 43 ∧ (0 < s.1 → w2.heap.size + 2 ≤ s.2) ∧ s.1 ≤ is.length) ?clI
    (fun W => ∃ n m', n ≠ 0 ∧ RemS but is m n m' ∧ V.IsDisk W (fun k => Z k ∨ w.heap.size ≤ k) (N + is.length) b m' ∧ V.Keeps Z w W ∧ RB w W b but n) ?clX
    (KpO w2.heap.size) ?kt ?kb (0, 0) ⟨⟨m, (show RemTo but (is.take 0) m m from rfl), (HD.out.kept_none H2.out.2.2.1).monoF (fun k hk => .inl hk)⟩, V.Keeps.of_none H2.out.2.2.1, H2.out.1, H2.out.2.1, fun h => absurd h (by simp), Nat.zero_le _⟩ (OTells w2.heap.size is) (fun s vs s' W ⟨_, _, _, _, i, _, e⟩ => by rw [e]; rfl) (fun s => s.1 = is.length) ?body ?iter ?done ?left
  case clI =>
    rintro s X Y row ⟨⟨m', h1, h2⟩, h3, h4, h5, h6⟩ hg hr
    have hz := H2.out.2.2
    refine ⟨⟨m', h1, h2.book hg (fun r e => (hr r e).2)⟩, h3.trans (V.Keeps.of_grown (F := fun k => w.heap.size ≤ k) hg (fun k e _ => by have := (hr k e).1; omega)) (fun i hi _ => by omega), h4.kept hg (fun r e => by have := (hr r e).1; omega), V.Blk.kept h5 hg (fun e => by have := (hr _ e.symm).1; omega), h6⟩
  case clX =>
    rintro X Y row ⟨n, m', h0, h1, h2, h3, h4⟩ hg hr
    have hz := H2.out.2.2
    exact ⟨n, m', h0, h1, h2.book hg (fun r e => (hr r e).2), h3.trans (V.Keeps.of_grown (F := fun k => w.heap.size ≤ k) hg (fun k e _ => by have := (hr k e).1; omega)) (fun i hi _ => by omega), h4.kept hg (fun r e => by have := (hr r e).1; omega)⟩
  case kt => exact fun s X Y Z h1 h2 => ⟨Nat.le_trans h1.1 h2.1, fun k a b c => (h2.2 k a b c).trans (h1.2 k a b c)⟩
  case kb => exact fun s X o o' h1 h2 => ⟨by simp [World.putObj], fun k a b c => World.putObj_heap_other (by omega)⟩
  case iter =>
    intro l J JX hJI hJg hXg hY W hJ0 hsz
    rw [HIS.out] at hY ⊢
    refine callsIn_wide.2 (callsIn_wide.1 (backs_in 9 l w1.heap.size b N w2.heap.size Z0 m (V.sortedKeys m.names) (by omega) rfl HP.out.2.2 J JX (fun A W hJ => ?_) (fun W hJ => ?_) hJg hXg hY W hJ0 hsz))
    · obtain ⟨⟨m', h1, h2⟩, _⟩ := hJI _ W hJ
      have e : m' = m := by simpa [RemTo] using h1
      rw [e] at h2
      exact (h2.monoF (fun k hk => hk.elim id (fun h => absurd h.1 (by simp))))
    · rw [(hJI _ W hJ).2.2.2.1.cell]; rfl
  case done =>
    rintro D s W hD hE ⟨⟨m', h1, h2⟩, h3, h4, h5, h6⟩ hK
    rw [hE, List.take_of_length_le (Nat.le_refl _)] at h1
    rw [hE] at h2
    have hz := H2.out.2.2
    have g := grown_setCell W (w.heap.size + 2) 0 (.int .i64 0)
    have HB := hid_mk (show RemS but is m 0 m' ∧ V.IsDisk ((W.setCell ⟨w.heap.size + 2, 0, none⟩ (.int .i64 0)).putObj D (.deferred none)) (fun k => Z k ∨ w.heap.size ≤ k) (N + is.length) b m' ∧ V.Keeps Z w ((W.setCell ⟨w.heap.size + 2, 0, none⟩ (.int .i64 0)).putObj D (.deferred none)) ∧ RB w ((W.setCell ⟨w.heap.size + 2, 0, none⟩ (.int .i64 0)).putObj D (.deferred none)) b but 0 ∧ (W.setCell ⟨w.heap.size + 2, 0, none⟩ (.int .i64 0)).heap[D]? = some (.deferred (some [])) by
      have hK' : (W.setCell ⟨w.heap.size + 2, 0, none⟩ (.int .i64 0)).heap[D]? = some (.deferred (some [])) := (g.block D (Array.getElem?_eq_some_iff.1 hK).1 (by simp; omega)).trans hK
      have gp := grownBy_putObj' (W.setCell ⟨w.heap.size + 2, 0, none⟩ (.int .i64 0)) D (.deferred none)
      have hd : V.IsDisk (W.setCell ⟨w.heap.size + 2, 0, none⟩ (.int .i64 0)) (fun k => Z0 k ∨ (0 < is.length ∧ s.2 ≤ k)) (N + is.length) b m' := h2.keeps (V.Keeps.one (Z := fun k => k = w.heap.size + 2) g rfl) (fun k hk e => by
        rcases hk with hk | ⟨ha, hk⟩
        · have := (HZL.out k hk).2; omega
        · have := h6.1 (by omega); omega)
      refine ⟨h1.all, (hd.book gp (fun r e => by cases e; exact ⟨_, hK', .inr ⟨_, rfl⟩⟩)).monoF (fun k hk => ?_), ?_, ?_, hK'⟩
      · rcases hk with hk | ⟨ha, hk⟩
        · exact .inl (HZL.out k hk).1
        · have := h6.1 (by omega); exact .inr (by omega)
      · exact ((h3.mono (fun k hk => (HZL.out k hk).1)).trans (V.Keeps.one (Z := fun k => k = w.heap.size + 2) g rfl) (fun i hi _ e => by omega)).trans (V.Keeps.one (Z := fun k => k = D) gp rfl) (fun i hi _ e => by omega)
      · exact RB.kept ⟨V.Blk.kept h4.bd g (by simp), V.Blk.kept h4.bb g (by simp), V.Blk.set h4.be 0 _⟩ gp (fun r e => by cases e; omega))
    obtain ⟨_, _, e0, ef⟩ := h4.cells
    clear h1 h2 h3 h4 h5 h6 hD hK hE g
    gi_wp2
    refine ⟨by simp, .inl ⟨_, _, rfl, run_takeDeferred HB.out.2.2.2.2, ?_⟩⟩
    exact ⟨_, ret_one HB.out.2.2.2.1 rfl rfl, 0, m', rfl, HB.out.1, HB.out.2.1, HB.out.2.2.1⟩
  case left =>
    rintro D W hD ⟨n, m', h0, h1, h2, h3, h4⟩ hK
    have hz := H2.out.2.2
    show bodyPostM Fence.wide 11 Tryz.prog Tryz.f57 _ Exit.ret _ W
    have gp := grownBy_putObj' W D (.deferred none)
    refine ⟨by simp, .inl ⟨_, _, rfl, run_takeDeferred hK, ?_⟩⟩
    exact ⟨_, ret_one (h4.kept gp (fun r e => by cases e; omega)) rfl rfl, n, m', rfl, h1, h2.book gp (fun r e => by cases e; exact ⟨_, hK, .inr ⟨_, rfl⟩⟩), h3.trans (V.Keeps.one (Z := fun k => k = D) gp rfl) (fun i hi _ e => by omega)⟩
  case body =>
    rintro l s vs s' W rfl hsz ⟨⟨m', h1, h2⟩, h3, h4, h5, h6, h7⟩ ⟨e1, e2, e3, e4, i, hi, rfl⟩ r hr
    have hz := H2.out.2.2
    have hlt : s.1 < is.length := (List.getElem?_eq_some_iff.1 hi).1
    have htk : is.take (s.1 + 1) = is.take s.1 ++ [i] := by rw [List.take_succ_eq_append_getElem hlt, (List.getElem?_eq_some_iff.1 hi).2]
    have hir : 1 ≤ i ∧ i ≤ 1099511627775 := by
      have hmem : i ∈ idxs (V.sortedKeys m.names) := by rw [← HIS.out]; exact List.mem_of_getElem? hi
      unfold idxs at hmem
      obtain ⟨k, hk, he⟩ := List.mem_filterMap.1 hmem
      rcases HP.out.2.2 k (List.mem_reverse.1 hk) with rfl | ⟨j, j1, j2, rfl⟩
      · rw [idxL_tmp] at he; cases he
      · rw [idxL_nm j2] at he; cases he; exact ⟨j1, j2⟩
    have hdrop : is = is.take s.1 ++ i :: is.drop (s.1 + 1) := by
      rw [← (List.getElem?_eq_some_iff.1 hi).2, ← List.drop_eq_getElem_cons hlt, List.take_append_drop]
    have gp : ∀ o', W.grownBy (W.putObj (w2.heap.size + 1) o') (some (w2.heap.size + 1)) := fun o' => grownBy_putObj' W _ o'
    have HALL := hid_mk (show ∀ o', V.IsDisk (W.putObj (w2.heap.size + 1) o') (fun k => Z0 k ∨ (0 < s.1 ∧ s.2 ≤ k)) (N + s.1) b m' ∧ V.Keeps Z0 w (W.putObj (w2.heap.size + 1) o') ∧ RB w (W.putObj (w2.heap.size + 1) o') b but 0 ∧ V.Blk (W.putObj (w2.heap.size + 1) o') w1.heap.size #[.pointer (some ⟨b, 0, none⟩)] 43 ∧ w2.heap.size + 2 ≤ (W.putObj (w2.heap.size + 1) o').heap.size ∧ s'.2 ≤ (W.putObj (w2.heap.size + 1) o').heap.size from fun o' =>
      ⟨h2.book (gp o') (fun r e => by cases e; exact ⟨_, hr, .inl ⟨_, rfl⟩⟩), h3.trans (V.Keeps.one (Z := fun k => k = w2.heap.size + 1) (gp o') rfl) (fun i hi _ e => by omega), h4.kept (gp o') (fun r e => by cases e; omega), V.Blk.kept h5 (gp o') (fun e => by injection e with e; omega), Nat.le_trans hsz (gp o').size, Nat.le_trans e2 (gp o').size⟩)
    have HRT := hid_mk (And.intro h1 (And.intro htk hdrop))
    have HS := hid_mk (And.intro e1 (And.intro e3 (And.intro e4 hlt)))
    have HIR := hid_mk hir
    clear h1 h2 h3 h4 h5 h6 h7 e1 e2 e3 e4 hi hr hsz hlt htk hdrop gp hir
    gi_wp2
    refine ⟨⟨rfl, rfl⟩, ⟨Nat.le_refl _, fun _ _ _ _ => rfl⟩, fun o' => ?_⟩
    have HY := hid_mk (HALL.out o')
    clear HALL
    generalize W.putObj (w2.heap.size + 1) o' = Y at *
    obtain ⟨q0, q1, q2, qf⟩ := HY.out.2.2.1.cells
    by_cases hib : i = but
    · have hibb : ((i : Int) == (but : Int)) = true := by simp [hib]
      gi_wp2_with fail
      refine ⟨⟨rfl, rfl⟩, ⟨Nat.le_refl _, fun _ _ _ _ => rfl⟩, ⟨m', ?_, ?_⟩, HY.out.2.1, HY.out.2.2.1, HY.out.2.2.2.1, fun _ => HS.out.2.2.1, by have := HS.out; omega⟩
      · rw [HS.out.1, HRT.out.2.1, hib]; exact HRT.out.1.skip
      · refine (HY.out.1.monoF (fun k hk => ?_)).monoN (by have := HS.out.1; omega)
        rcases hk with hk | ⟨h0, hk⟩
        · exact .inl hk
        · exact .inr ⟨by have := HS.out.1; omega, by rw [HS.out.2.1 h0]; exact hk⟩
    · have hibb : ((i : Int) == (but : Int)) = false := by simp; omega
      have HPY := hid_mk (HP.out.1.keeps HY.out.2.1 (fun h => HP.out.2.1 (HZL.out 1 h).1))
      have gy := grown_drew Y none
      have q0y : Y.drew.cell? ⟨w.heap.size, 0, none⟩ = some (.pointer (some ⟨b, 0, none⟩)) := q0
      have HYD := hid_mk (show V.IsDisk Y.drew (fun k => Z0 k ∨ (0 < s.1 ∧ s.2 ≤ k)) (N + s.1) b m' ∧ V.Keeps Z0 w Y.drew ∧ RB w Y.drew b but 0 ∧ V.Blk Y.drew w1.heap.size #[.pointer (some ⟨b, 0, none⟩)] 43 ∧ w2.heap.size + 2 ≤ Y.drew.heap.size ∧ s'.2 ≤ Y.drew.heap.size ∧ Pw Y.drew ∧ F.Bk w2.heap.size Y Y.drew ∧ KpO w2.heap.size s' Y Y.drew from
        ⟨HY.out.1.kept_none gy, HY.out.2.1.then (V.Keeps.of_none gy), HY.out.2.2.1.kept gy (fun r e => by cases e), HY.out.2.2.2.1.kept gy (by simp), Nat.le_trans HY.out.2.2.2.2.1 gy.size, Nat.le_trans HY.out.2.2.2.2.2 gy.size, HPY.out.kept gy, ⟨rfl, rfl⟩, Nat.le_refl _, fun _ _ _ _ => rfl⟩)
      gi_wp2_with fail
      gi_region_with (first
        | (refine ⟨trivial, (CallsIn.inRound _ (callsIn_wide.2 (nameOf_any i Y.drew HIR.out.1 HIR.out.2 HYD.out.2.2.2.2.2.2.1))).mono ?_⟩; rintro e Y1 ⟨rfl, hg1⟩; have q01 := hg1.cell q0y (by simp); have HG1 := hid_mk hg1; clear hg1)
        | (refine ⟨trivial, (CallsIn.inRound _ (callsIn_wide.2 (V.remove_any (N + s.1) b _ m' (nmS i) Y1 (HYD.out.1.kept_none HG1.out) (by have := HS.out; omega) (size_S _)))).mono ?_⟩; rintro e Y2 ⟨n2, m2, rfl, S2, D2, K2⟩; have HR2 := hid_mk (And.intro S2 (And.intro D2 K2)); clear S2 D2 K2))
      all_goals (
        have HE := hid_mk (show V.RemoveSpec (nmS i) m' n2 m2 ∧ V.IsDisk Y2 (fun k => Z0 k ∨ (0 < s'.1 ∧ s'.2 ≤ k)) (N + s'.1) b m2 ∧ V.Keeps Z0 w Y2 ∧ RB w Y2 b but 0 ∧ V.Blk Y2 w1.heap.size #[.pointer (some ⟨b, 0, none⟩)] 43 ∧ F.Bk w2.heap.size Y Y2 ∧ KpO w2.heap.size s' Y Y2 by
          have hs := HS.out
          have hzz := H2.out.2.2
          have hge := HYD.out
          have h1 := HG1.out
          have hsz1 : s'.2 ≤ Y1.heap.size := Nat.le_trans hge.2.2.2.2.2.1 h1.size
          have hno : ∀ k, w.heap.size ≤ k → k < s'.2 → ¬ (Z0 k ∨ (0 < s.1 ∧ s.2 ≤ k)) := fun k hk1 hk2 h => by
            rcases h with h | ⟨h, h'⟩
            · have := (HZL.out k h).2; omega
            · have := hs.2.1 h; omega
          have hsame : ∀ k, w.heap.size ≤ k → k < s'.2 → Y2.heap[k]? = Y.heap[k]? := fun k hk1 hk2 => ((HR2.out.2.2.block k (by omega) (hno k hk1 hk2)).trans (h1.block k (by show k < Y.heap.size; have := hge.2.2.2.2.2.1; exact Nat.lt_of_lt_of_le hk2 this) (by simp)))
          refine ⟨HR2.out.1, (HR2.out.2.1.monoF (fun k hk => ?_)).monoN (by omega), ?_, ?_, ?_, ⟨hsame _ (by omega) (by omega), hsame _ (by omega) (by omega)⟩, Nat.le_trans h1.size HR2.out.2.2.size, fun k hk1 hk2 hk3 => hsame k (by omega) hk1⟩
          · rcases hk with (hk | ⟨h0, hk⟩) | hk
            · exact .inl hk
            · exact .inr ⟨by omega, by rw [hs.2.1 h0]; exact hk⟩
            · exact .inr ⟨by omega, Nat.le_trans hsz1 hk⟩
          · exact (hge.2.1.then (V.Keeps.of_none h1)).trans HR2.out.2.2 (fun k hk hz h => by
              rcases h with h | ⟨h0, h⟩
              · exact hz h
              · have := hs.2.1 h0; omega)
          · exact (hge.2.2.1.kept h1 (fun r e => by cases e)).keeps HR2.out.2.2 (fun k hk1 hk2 => hno k hk1 (by omega))
          · exact (HR2.out.2.2.block _ (by omega) (hno _ (by omega) (by omega))).trans (hge.2.2.2.1.kept h1 (by simp)))
        have HSZ := hid_mk (show w2.heap.size + 2 ≤ Y.heap.size ∧ s'.2 ≤ Y.heap.size from ⟨HY.out.2.2.2.2.1, HY.out.2.2.2.2.2⟩)
        clear HR2 HG1 q01 q0y q0 q1 q2 qf gy HYD HY
        obtain ⟨q0, q1, q2, qf⟩ := HE.out.2.2.2.1.cells
        by_cases hn2 : n2 = 0
        · subst hn2
          gi_wp2_with fail
          refine ⟨HE.out.2.2.2.2.2.1, HE.out.2.2.2.2.2.2, ⟨m2, ?_, HE.out.2.1⟩, HE.out.2.2.1, HE.out.2.2.2.1, HE.out.2.2.2.2.1, fun _ => HS.out.2.2.1, by have := HS.out; omega⟩
          rw [HS.out.1, HRT.out.2.1]
          exact HRT.out.1.more hib HE.out.1
        · have hnb : (n2 != 0) = true := by simp [hn2]
          gi_wp2_with fail
          have hs := HS.out
          have hzz := H2.out.2.2
          have g := grown_setCell Y2 (w.heap.size + 2) 0 (.int .i64 n2)
          have hbk := HE.out.2.2.2.2.2.1
          have hkp := HE.out.2.2.2.2.2.2
          have hlt3 : w2.heap.size + 2 ≤ Y2.heap.size := by have := HS.out.2.2.1; have := HSZ.out; have := hkp.1; omega
          refine ⟨hbk.trans ⟨g.block _ (by omega) (by simp; omega), g.block _ (by omega) (by simp; omega)⟩, ⟨Nat.le_trans hkp.1 g.size, fun k a1 a2 a3 => ?_⟩, n2, hn2, m2, ?_, ?_, ?_, ?_⟩
          · by_cases hk : k < Y2.heap.size
            · exact (g.block k hk (by simp; omega)).trans (hkp.2 k a1 a2 a3)
            · exact absurd (Nat.lt_of_lt_of_le a1 (Nat.le_trans HSZ.out.2 hkp.1)) hk
          · rw [HRT.out.2.2]
            exact HRT.out.1.fails hib hn2 HE.out.1
          · refine ((HE.out.2.1.keeps (V.Keeps.one (Z := fun k => k = w.heap.size + 2) g rfl) (fun k hk e => ?_)).monoF (fun k hk => ?_)).monoN (by omega)
            · rcases hk with hk | ⟨_, hk⟩
              · have := (HZL.out k hk).2; omega
              · omega
            · rcases hk with hk | ⟨_, hk⟩
              · exact .inl (HZL.out k hk).1
              · exact .inr (by omega)
          · exact (HE.out.2.2.1.mono (fun k hk => (HZL.out k hk).1)).trans (V.Keeps.one (Z := fun k => k = w.heap.size + 2) g rfl) (fun i hi _ e => by omega)
          · exact ⟨V.Blk.kept HE.out.2.2.2.1.bd g (by simp), V.Blk.kept HE.out.2.2.2.1.bb g (by simp), V.Blk.set HE.out.2.2.2.1.be 0 _⟩)

end Go.Proofs.YtmlppjmpoanlkaaGreatDoor.W
