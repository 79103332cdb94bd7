/- snaps: no disk, and one that nobody made; the document's Right. -/
import Derived.Test.YtmlppjmpoanlkaaGreatDoorSnY
namespace Go.Proofs.YtmlppjmpoanlkaaGreatDoor.W
open Go.RowKit Go.Maps Go.Shelf
set_option linter.unusedVariables false
set_option linter.unusedSimpArgs false
set_option maxRecDepth 100000

/-- No disk, or one that nobody made. -/
def NoD (w : World) (p : Option Addr) : Prop := p = none ∨ ∃ b cs t, p = some ⟨b, 0, none⟩ ∧ V.Blk w b cs t ∧ cs[3]? = some (.map none)
theorem NoD.kept {w w' : World} {p : Option Addr} (h : NoD w p) (hg : w.grownBy w' none) : NoD w' p := by
  rcases h with rfl | ⟨b, cs, t, rfl, hb, hc⟩
  · exact .inl rfl
  · exact .inr ⟨b, cs, t, rfl, V.Blk.kept hb hg (by simp), hc⟩
theorem made_no (p : Option Addr) (w : World) (h : NoD w p) : Calls Tryz.prog 50 #[.pointer p] w fun e w' => e = .returned (.bool false) ∧ w' = w := by
  rcases h with rfl | ⟨b, cs, t, rfl, hb, hc⟩
  · exact made_nil w
  · exact made_zero b w (by rw [hb.cell]; exact hc)
theorem remove_not (p : Option Addr) (s : ByteArray) (w : World) (h : NoD w p) : Calls Tryz.prog 101 #[.pointer p, .string s] w fun e w' => e = .returned (.int .i64 1) ∧ w.grownBy w' none := by
  rcases h with rfl | ⟨b, cs, t, rfl, hb, hc⟩
  · exact V.remove_nil s w
  · exact V.remove_zero b s w (by rw [hb.cell]; exact hc)
theorem removeU_no (p : Option Addr) (w : World) (h : NoD w p) : Calls Tryz.prog 58 #[.pointer p] w fun e w' => e = .returned (.int .i64 1) ∧ w.grownBy w' none := by
  have HC := hid_mk (remove_not p nmU w h)
  unfold nmU at HC
  clear h
  go_enter Tryz.func58, Tryz.ntmps58
  go_wp2_with fail
  refine HC.out.mono ?_
  rintro e w1 ⟨rfl, hg1⟩
  have H1 := hid_mk hg1
  clear hg1 HC
  go_wp2_with fail
  go_ret
  exact ⟨rfl, H1.out⟩
theorem clean_no (p : Option Addr) (w : World) (h : NoD w p) : Calls Tryz.prog 20 #[.pointer p] w fun e w' => e = .returned (.int .i64 1) ∧ w.grownBy w' none := by
  have HC := hid_mk h
  clear h
  go_enter Tryz.func20, Tryz.ntmps20
  go_wp2_with fail
  refine (removeU_no p w HC.out).mono ?_
  rintro e w1 ⟨rfl, hg1⟩
  have H1 := hid_mk hg1
  clear hg1 HC
  go_wp2_with fail
  go_ret
  exact ⟨rfl, H1.out⟩
/-- Load's boxes. -/
structure L4 (w W : World) (i t : Int) (sv dv : Value) (okv : Bool) (ev : Int) : Prop where
  bs : SB W (w.heap.size + 1) i t sv dv
  bo : V.Blk W (w.heap.size + 2) #[.bool okv] 4
  be : V.Blk W (w.heap.size + 3) #[.int .i64 ev] 29
  gr : w.grownBy W none
theorem four_no (w : World) (p : Option Addr) : L4 w ((((w.alloc (.cells #[.pointer p] 43)).alloc (.cells #[.int .i64 0, .int .i64 0, .slice none 0 0, .slice none 0 0] 27)).alloc (.cells #[.bool false] 4)).alloc (.cells #[.int .i64 0] 29)) 0 0 (.slice none 0 0) (.slice none 0 0) false 0 := by
  have b2 := heap_alloc_new (w.alloc (.cells #[.pointer p] 43)) (.cells #[.int .i64 0, .int .i64 0, .slice none 0 0, .slice none 0 0] 27)
  have b3 := heap_alloc_new ((w.alloc (.cells #[.pointer p] 43)).alloc (.cells #[.int .i64 0, .int .i64 0, .slice none 0 0, .slice none 0 0] 27)) (.cells #[.bool false] 4)
  have b4 := heap_alloc_new (((w.alloc (.cells #[.pointer p] 43)).alloc (.cells #[.int .i64 0, .int .i64 0, .slice none 0 0, .slice none 0 0] 27)).alloc (.cells #[.bool false] 4)) (.cells #[.int .i64 0] 29)
  simp only [World.size_alloc] at b2 b3 b4
  refine ⟨V.Blk.kept (V.Blk.kept b2 (World.grownBy_alloc _ _ none) (by simp)) (World.grownBy_alloc _ _ none) (by simp), V.Blk.kept b3 (World.grownBy_alloc _ _ none) (by simp), b4, ?_⟩
  exact grown_trans (World.grownBy_alloc _ _ none) (grown_trans (World.grownBy_alloc _ _ none) (grown_trans (World.grownBy_alloc _ _ none) (World.grownBy_alloc _ _ none)))
theorem L4.setS {w W : World} {i t : Int} {sv dv : Value} {okv : Bool} {ev : Int} (h : L4 w W i t sv dv okv ev) (i' t' : Int) (sv' dv' : Value) : L4 w ((((W.setCell ⟨w.heap.size + 1, 0, none⟩ (.int .i64 i')).setCell ⟨w.heap.size + 1, 1, none⟩ (.int .i64 t')).setCell ⟨w.heap.size + 1, 2, none⟩ sv').setCell ⟨w.heap.size + 1, 3, none⟩ dv') i' t' sv' dv' okv ev := by
  have g : ∀ (X : World) (j : Nat) (u : Value), X.grownBy (X.setCell ⟨w.heap.size + 1, j, none⟩ u) (some (w.heap.size + 1)) := fun X j u => grown_setCell X _ j u
  have k : ∀ {X : World} {q : Nat} {cs : Array Value} {tt : TypeId} (j : Nat) (u : Value), V.Blk X q cs tt → q ≠ w.heap.size + 1 → V.Blk (X.setCell ⟨w.heap.size + 1, j, none⟩ u) q cs tt := fun j u hb hq => V.Blk.kept hb (g _ j u) (by simp; omega)
  refine ⟨h.bs.laid i' t' sv' dv', k _ _ (k _ _ (k _ _ (k _ _ h.bo (by omega)) (by omega)) (by omega)) (by omega), k _ _ (k _ _ (k _ _ (k _ _ h.be (by omega)) (by omega)) (by omega)) (by omega), ?_⟩
  exact grown_new (grown_new (grown_new (grown_new h.gr (g _ _ _) (by omega)) (g _ _ _) (by omega)) (g _ _ _) (by omega)) (g _ _ _) (by omega)
theorem L4.setO {w W : World} {i t : Int} {sv dv : Value} {okv : Bool} {ev : Int} (h : L4 w W i t sv dv okv ev) (okv' : Bool) : L4 w (W.setCell ⟨w.heap.size + 2, 0, none⟩ (.bool okv')) i t sv dv okv' ev := by
  have g := grown_setCell W (w.heap.size + 2) 0 (.bool okv')
  exact ⟨V.Blk.kept h.bs g (by simp), V.Blk.set h.bo 0 _, V.Blk.kept h.be g (by simp), grown_new h.gr g (by omega)⟩
theorem L4.setE {w W : World} {i t : Int} {sv dv : Value} {okv : Bool} {ev : Int} (h : L4 w W i t sv dv okv ev) (ev' : Int) : L4 w (W.setCell ⟨w.heap.size + 3, 0, none⟩ (.int .i64 ev')) i t sv dv okv ev' := by
  have g := grown_setCell W (w.heap.size + 3) 0 (.int .i64 ev')
  exact ⟨V.Blk.kept h.bs g (by simp), V.Blk.kept h.bo g (by simp), V.Blk.set h.be 0 _, grown_new h.gr g (by omega)⟩
theorem L4.cells {w W : World} {i t : Int} {sv dv : Value} {okv : Bool} {ev : Int} (h : L4 w W i t sv dv okv ev) : W.cell? ⟨w.heap.size + 2, 0, none⟩ = some (.bool okv) ∧ W.cell? ⟨w.heap.size + 3, 0, none⟩ = some (.int .i64 ev) ∧ (∀ j, W.frozen? ⟨w.heap.size + 2, j, none⟩ = false) ∧ ∀ j, W.frozen? ⟨w.heap.size + 3, j, none⟩ = false :=
  ⟨by rw [h.bo.cell]; rfl, by rw [h.be.cell]; rfl, fun j => h.bo.frozen j, fun j => h.be.frozen j⟩
theorem L4.ret {tmps : Array Value} {w W : World} {i t : Int} {sv dv : Value} {okv : Bool} {ev : Int} (h : L4 w W i t sv dv okv ev) (h2 : tmps.getD 2 undef = .pointer (some ⟨w.heap.size + 1, 0, none⟩)) (h3 : tmps.getD 3 undef = .pointer (some ⟨w.heap.size + 2, 0, none⟩)) (h4 : tmps.getD 4 undef = .pointer (some ⟨w.heap.size + 3, 0, none⟩)) :
    (results Tryz.f17 tmps).run Tryz.prog W = .ok (.tuple #[.agg #[.int .i64 i, .int .i64 t, sv, dv], .bool okv, .int .i64 ev]) W := by
  obtain ⟨d0, e0, _, _⟩ := h.cells
  have r1 := load27 W _ _ _ _ _ h.bs
  have r2 : (loadVar 4 ⟨w.heap.size + 2, 0, none⟩).run Tryz.prog W = .ok (.bool okv) W := by simp [loadVar, go_sem, d0]
  have r3 : (loadVar 29 ⟨w.heap.size + 3, 0, none⟩).run Tryz.prog W = .ok (.int .i64 ev) W := by simp [loadVar, go_sem, e0]
  have e : Tryz.f17.results = #[.cell 2 27, .cell 3 4, .cell 4 29] := rfl
  simp only [results, e]
  have h2' : tmps[2]?.getD undef = .pointer (some ⟨w.heap.size + 1, 0, none⟩) := by simpa using h2
  have h3' : tmps[3]?.getD undef = .pointer (some ⟨w.heap.size + 2, 0, none⟩) := by simpa using h3
  have h4' : tmps[4]?.getD undef = .pointer (some ⟨w.heap.size + 3, 0, none⟩) := by simpa using h4
  simp [h2', h3', h4', asAddr, Sem.run_bind, Result.andThen, r1, r2, r3]
set_option maxHeartbeats 1000000 in
theorem load_no (p : Option Addr) (w : World) (h : NoD w p) : Calls Tryz.prog 17 #[.pointer p] w fun e w' => e = .returned (.tuple #[zeroS, .bool false, .int .i64 1]) ∧ w.grownBy w' none := by
  have HC := hid_mk h
  have HL := hid_mk (four_no w p)
  clear h
  refine (callsIn_wide (n := 11)).1 ?_
  refine callsIn_of_wp_marks Tryz.func17 rfl trivial ?_ rfl
  simp only [Tryz.ntmps17, List.size_toArray, List.length_cons, List.length_nil, Nat.reduceAdd, Nat.reduceSub, Array.replicate_succ, Array.replicate_zero, List.push_toArray, List.append_toArray, List.nil_append, List.cons_append]
  gi_wp2_with fail
  generalize ((((w.alloc (.cells #[.pointer p] 43)).alloc (.cells #[.int .i64 0, .int .i64 0, .slice none 0 0, .slice none 0 0] 27)).alloc (.cells #[.bool false] 4)).alloc (.cells #[.int .i64 0] 29)) = w0 at *
  refine ⟨trivial, (callsIn_wide.2 (made_no p w0 (HC.out.kept HL.out.gr))).mono ?_⟩
  rintro e w1 ⟨rfl, rfl⟩
  have HZ := hid_mk (((HL.out.setS 0 0 (.slice none 0 0) (.slice none 0 0)).setO false).setE 1)
  obtain ⟨c0, c1, c2, c3, cf⟩ := HL.out.bs.all
  obtain ⟨d0, e0, df, ef⟩ := HL.out.cells
  gi_wp2
  exact ⟨_, HZ.out.ret rfl rfl rfl, rfl, HZ.out.gr⟩
set_option maxHeartbeats 1000000 in
theorem save_no (p : Option Addr) (x : Snap) (sv dv : Value) (w : World) (h : NoD w p) (hx : SnapAt w sv dv x) (hm : mayS x = true) (ht : F.Tab w) : Calls Tryz.prog 18 #[.pointer p, snapV x sv dv] w fun e w' => e = .returned (.int .i64 1) ∧ w.grownBy w' none := by
  obtain ⟨sa, sc, rfl⟩ := hx.s.len
  obtain ⟨da, dc, rfl⟩ := hx.d.len
  have HC := hid_mk (And.intro h (And.intro hm ht))
  have HA : Hid (w.grownBy (w.alloc (.cells #[.int .i64 x.i, .int .i64 x.t, .slice sa x.s.length sc, .slice da x.d.length dc] 27)) none) := hid_mk (World.grownBy_alloc _ _ _)
  have HX := hid_mk (hx.kept HA.out)
  clear h hx hm ht
  unfold snapV
  go_enter Tryz.func18, Tryz.ntmps18
  go_wp2_with fail
  generalize (w.alloc (.cells #[.int .i64 x.i, .int .i64 x.t, .slice sa x.s.length sc, .slice da x.d.length dc] 27)) = w0 at *
  refine (putS_ok x _ _ w0 HX.out HC.out.2.1 (HC.out.2.2.kept HA.out)).mono ?_
  rintro e w1 ⟨a1, c1, rfl, ho1, hg1⟩
  have H1 := hid_mk (grown_trans HA.out hg1)
  clear hg1 ho1 HX HA
  go_wp2_with fail
  refine (load_no p w1 (HC.out.1.kept H1.out)).mono ?_
  rintro e w2 ⟨rfl, hg2⟩
  have H2 := hid_mk (grown_trans H1.out (grown_trans hg2 (World.grownBy_alloc w2 (.cells #[.int .i64 0, .int .i64 0, .slice none 0 0, .slice none 0 0] 27) none)))
  clear hg2 H1
  unfold zeroS
  go_wp2_with fail
  go_ret
  exact ⟨rfl, H2.out⟩
set_option maxHeartbeats 1000000 in
theorem right_doc (x : Snap) (sv dv : Value) (w : World) (h : SnapAt w sv dv x) (hl : x.s.length ≤ 140737488355328) : Calls Tryz.prog 22 #[snapV x sv dv] w fun e w' => e = .returned (.bool (mayS x)) ∧ w.grownBy w' none := by
  obtain ⟨sa, sc, rfl⟩ := h.s.len
  obtain ⟨da, dc, rfl⟩ := h.d.len
  have HA : Hid (V.Blk (w.alloc (.cells #[.int .i64 x.i, .int .i64 x.t, .slice sa x.s.length sc, .slice da x.d.length dc] 25)) w.heap.size #[.int .i64 x.i, .int .i64 x.t, .slice sa x.s.length sc, .slice da x.d.length dc] 25 ∧ w.grownBy (w.alloc (.cells #[.int .i64 x.i, .int .i64 x.t, .slice sa x.s.length sc, .slice da x.d.length dc] 25)) none) := hid_mk ⟨heap_alloc_new _ _, World.grownBy_alloc _ _ _⟩
  have HX := hid_mk (h.kept HA.out.2)
  clear h
  unfold snapV
  by_cases hb : 1 ≤ x.i ∧ x.i < 1099511627776 ∧ 1 ≤ x.t ∧ x.t < 1099511627776
  · obtain ⟨b1, b2, b3, b4⟩ := hb
    have hm : mayS x = (rightS x.s && decide (x.d.length ≤ 60000)) := by unfold mayS inB; simp only [b1, b2, b3, b4, show x.i ≤ 1099511627775 by omega, decide_true, Bool.true_and]
    rw [hm]
    clear hm
    go_enter Tryz.func22, Tryz.ntmps22
    go_wp2_with fail
    generalize (w.alloc (.cells #[.int .i64 x.i, .int .i64 x.t, .slice sa x.s.length sc, .slice da x.d.length dc] 25)) = w0 at *
    refine (rright_any _ x.s w0 HX.out.s hl).mono ?_
    rintro e w1 ⟨rfl, m1, rfl⟩
    have hg1 := grown_drewN w0 m1 none
    have H1 := hid_mk (And.intro (V.Blk.kept HA.out.1 hg1 (by simp)) (grown_trans HA.out.2 hg1))
    clear hg1
    generalize w0.drewN m1 = w1 at *
    have p3 : w1.cell? ⟨w.heap.size, 3, none⟩ = some (.slice da x.d.length dc) := by rw [H1.out.1.cell]; rfl
    obtain ⟨rs, hrs⟩ : ∃ rs, rs = rightS x.s := ⟨_, rfl⟩
    rw [← hrs]
    have HR := hid_mk hrs
    clear hrs
    cases rs with
    | false =>
      go_wp2_with fail
      go_ret
      exact ⟨by rw [← HR.out]; rfl, H1.out.2⟩
    | true =>
      by_cases hd : x.d.length ≤ 60000
      · have hd' : (x.d.length : Int) ≤ 60000 := by omega
        go_wp2_with fail
        go_ret
        exact ⟨by rw [← HR.out]; simp [hd], H1.out.2⟩
      · have hd' : ¬ (x.d.length : Int) ≤ 60000 := by omega
        go_wp2_with fail
        go_ret
        exact ⟨by rw [← HR.out]; simp [hd]; omega, H1.out.2⟩
  · have hm : mayS x = false := by
      cases hh : mayS x with
      | false => rfl
      | true =>
        obtain ⟨b1, b2, b3, b4, b5⟩ := inB_iff.1 (mayS_iff.1 hh).2
        exact absurd ⟨b1, by omega, b3, b4⟩ hb
    rw [hm]
    clear hm
    have HB := hid_mk hb
    clear hb
    go_enter Tryz.func22, Tryz.ntmps22
    go_wp2_with (first | (go_at_call 60; exfalso; have := HB.out; omega))
    all_goals (go_ret; exact ⟨rfl, HA.out.2⟩)

end Go.Proofs.YtmlppjmpoanlkaaGreatDoor.W
