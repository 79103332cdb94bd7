/- watch: the document's whole, at, differ. -/
import Derived.Test.YtcijjepleedecaaWaE
namespace Go.Proofs.Ytcijjepleedecaa.W
open Go.RowKit Go.Maps
set_option linter.unusedVariables false
set_option linter.unusedSimpArgs false
set_option maxRecDepth 100000
attribute [local go_sem] Oper.semAt_some


theorem RB.frozen {W : World} {g i : Nat} {b t : Int} {lv : Value} (h : RB W g b t lv) : W.frozen? ⟨g, i, none⟩ = false := by
  have h' : W.heap[g]? = _ := h
  simp [World.frozen?, h']
theorem RB.put {W : World} {g : Nat} {b0 t0 : Int} {lv0 : Value} (h : RB W g b0 t0 lv0) (b t : Int) (lv : Value) :
    RB (((W.setCell ⟨g, 0, none⟩ (.int .i64 b)).setCell ⟨g, 1, none⟩ (.int .i64 t)).setCell ⟨g, 2, none⟩ lv) g b t lv ∧ W.grownBy (((W.setCell ⟨g, 0, none⟩ (.int .i64 b)).setCell ⟨g, 1, none⟩ (.int .i64 t)).setCell ⟨g, 2, none⟩ lv) (some g) := by
  have h' : W.heap[g]? = _ := h
  refine ⟨?_, grown_trans (grown_trans (grown_setCell _ _ _ _) (grown_setCell _ _ _ _)) (grown_setCell _ _ _ _)⟩
  unfold RB
  simp [World.setCell, Array.getElem?_modify, h']
theorem load30 (w : World) (b : Nat) (c0 c1 c2 : Value) (h0 : w.cell? ⟨b, 0, none⟩ = some c0) (h1 : w.cell? ⟨b, 1, none⟩ = some c1) (h2 : w.cell? ⟨b, 2, none⟩ = some c2) : (loadVar 30 ⟨b, 0, none⟩).run Try.prog w = .ok (.agg #[c0, c1, c2]) w := by
  simp [go_sem, h0, h1, h2]
theorem ret_rview {fn : Func} {p : Tmp} (h : fn.results = #[.cell p 30]) (tmps : Array Value) (w : World) (g : Nat) (b t : Int) (lv : Value) (hp : tmps.getD p undef = .pointer (some ⟨g, 0, none⟩)) (hb : RB w g b t lv) : (results fn tmps).run Try.prog w = .ok (viewV b t lv) w := by
  have ha : (asAddr (.pointer (some ⟨g, 0, none⟩))).run Try.prog w = .ok ⟨g, 0, none⟩ w := by simp [asAddr]
  obtain ⟨c0, c1, c2⟩ := hb.cells
  rw [results_cell1 h, hp, ha]
  simp only [Result.andThen]
  rw [load30 w g _ _ _ c0 c1 c2]
  rfl
theorem RB.two (w : World) (b t : Int) (lv : Value) : RB ((w.alloc (.cells #[.int .i64 b, .int .i64 t, lv] 30)).alloc (.cells #[.int .i64 0, .int .i64 0, .slice none 0 0] 30)) w.heap.size b t lv ∧ RB ((w.alloc (.cells #[.int .i64 b, .int .i64 t, lv] 30)).alloc (.cells #[.int .i64 0, .int .i64 0, .slice none 0 0] 30)) (w.heap.size + 1) 0 0 (.slice none 0 0) ∧ w.grownBy ((w.alloc (.cells #[.int .i64 b, .int .i64 t, lv] 30)).alloc (.cells #[.int .i64 0, .int .i64 0, .slice none 0 0] 30)) none := by
  have h1 := RB.new w b t lv
  have h2 := RB.new (w.alloc (.cells #[.int .i64 b, .int .i64 t, lv] 30)) 0 0 (.slice none 0 0)
  rw [World.size_alloc] at h2
  exact ⟨h1.kept (World.grownBy_alloc _ _ none) (by simp), h2, grown_trans (World.grownBy_alloc _ _ none) (World.grownBy_alloc _ _ none)⟩

set_option maxHeartbeats 4000000 in
theorem whole_any (b t : Int) (lv : Value) (es : List Ent) (w : World) (h : EntsR w lv es) (hlen : es.length ≤ 10000000000000) : Calls Try.prog 30 #[viewV b t lv] w fun e w' => e = .returned (viewV (whB b t es) (whT b t es) (whV b t es lv)) ∧ w.grownBy w' none := by
  obtain ⟨a, c, rfl⟩ := h.len
  have HE := hid_mk h
  clear h
  have HV : Hid (viewV b t (.slice a es.length c) = .agg #[.int .i64 b, .int .i64 t, .slice a es.length c]) := hid_mk rfl
  unfold viewV
  have HA := hid_mk (RB.two w b t (.slice a es.length c))
  go_enter Try.func30, Try.ntmps30
  go_upto_region 1 with fail
  generalize (w.alloc (.cells #[.int .i64 b, .int .i64 t, .slice a es.length c] 30)).alloc (.cells #[.int .i64 0, .int .i64 0, .slice none 0 0] 30) = w1 at *
  obtain ⟨v0, v1, v2⟩ := HA.out.1.cells
  go_wp2_with fail
  rw [← HV.out]
  refine (rrightV_any b t _ es w1 (HE.out.kept HA.out.2.2) hlen).mono ?_
  rintro e w2 ⟨rfl, hg⟩
  obtain ⟨r, hr⟩ : ∃ r, r = w.heap.size + 1 := ⟨_, rfl⟩
  have HR := hid_mk (show RB w2 r 0 0 (.slice none 0 0) ∧ w.grownBy w2 none ∧ w.heap.size ≤ r from ⟨hr ▸ HA.out.2.1.kept hg (by simp), grown_trans HA.out.2.2 hg, by omega⟩)
  have HQ := hid_mk (HA.out.1.kept hg (by simp))
  rw [← hr]
  clear hg hr v0 v1 v2
  rcases Bool.eq_false_or_eq_true (rightV b t es) with hr2 | hr2
  · obtain ⟨e1, e2, e3⟩ := wh_yes hr2
    have H4 := hid_mk (And.intro e1 (And.intro e2 (And.intro e3 (whV_yes hr2 (.slice a es.length c)))))
    clear e1 e2 e3
    rw [hr2]
    obtain ⟨c0, c1, c2⟩ := HQ.out.cells
    obtain ⟨r0, r1, r2⟩ := HR.out.1.cells
    have z0 := HR.out.1.frozen (i := 0)
    have z1 := HR.out.1.frozen (i := 1)
    have z2 := HR.out.1.frozen (i := 2)
    have HP := hid_mk (HR.out.1.put b t (.slice a es.length c))
    go_wp2_with fail
    refine bodyPost_ret (ret_rview rfl _ _ _ _ _ _ rfl HP.out.1) rfl ?_
    exact ⟨by rw [H4.out.1, H4.out.2.1, H4.out.2.2.2]; rfl, grown_new HR.out.2.1 HP.out.2 HR.out.2.2⟩
  · obtain ⟨e1, e2, e3⟩ := wh_no hr2
    have H4 := hid_mk (And.intro e1 (And.intro e2 (And.intro e3 (whV_no hr2 (.slice a es.length c)))))
    clear e1 e2 e3
    rw [hr2]
    obtain ⟨r0, r1, r2⟩ := HR.out.1.cells
    have z0 := HR.out.1.frozen (i := 0)
    have z1 := HR.out.1.frozen (i := 1)
    have z2 := HR.out.1.frozen (i := 2)
    have HP := hid_mk (HR.out.1.put 0 0 (.slice none 0 0))
    go_wp2_with fail
    refine bodyPost_ret (ret_rview rfl _ _ _ _ _ _ rfl HP.out.1) rfl ?_
    exact ⟨by rw [H4.out.1, H4.out.2.1, H4.out.2.2.2]; rfl, grown_new HR.out.2.1 HP.out.2 HR.out.2.2⟩

/-- The entry at an index. -/
def atB (b : Int) (es : List Ent) (i : Int) : Bool := decide (b < i) && decide (i ≤ b + es.length)
def zeroE : Ent := ⟨0, 0, 0, []⟩
theorem load55 (w : World) (b : Nat) (c0 c1 c2 c3 : Value) (h0 : w.cell? ⟨b, 0, none⟩ = some c0) (h1 : w.cell? ⟨b, 1, none⟩ = some c1) (h2 : w.cell? ⟨b, 2, none⟩ = some c2) (h3 : w.cell? ⟨b, 3, none⟩ = some c3) : (loadVar 55 ⟨b, 0, none⟩).run Try.prog w = .ok (.agg #[c0, c1, c2, c3]) w := by
  simp [go_sem, h0, h1, h2, h3]
theorem ent_put {W : World} {g : Nat} {a b c d : Value} (h : Blk W g #[a, b, c, d] 55) (x : Ent) (dv : Value) :
    EB ((((W.setCell ⟨g, 0, none⟩ (.int .i64 x.term)).setCell ⟨g, 1, none⟩ (.int .i64 x.index)).setCell ⟨g, 2, none⟩ (.int .i64 x.kind)).setCell ⟨g, 3, none⟩ dv) g x dv ∧ W.grownBy ((((W.setCell ⟨g, 0, none⟩ (.int .i64 x.term)).setCell ⟨g, 1, none⟩ (.int .i64 x.index)).setCell ⟨g, 2, none⟩ (.int .i64 x.kind)).setCell ⟨g, 3, none⟩ dv) (some g) := by
  have h' : W.heap[g]? = _ := h
  refine ⟨?_, grown_trans (grown_trans (grown_trans (grown_setCell _ _ _ _) (grown_setCell _ _ _ _)) (grown_setCell _ _ _ _)) (grown_setCell _ _ _ _)⟩
  unfold EB
  simp [World.setCell, Array.getElem?_modify, h']
set_option maxHeartbeats 4000000 in
theorem at_any (b t i : Int) (lv : Value) (es : List Ent) (w : World) (h : EntsR w lv es) (hlen : es.length ≤ 4096) (hb : 0 ≤ b ∧ b ≤ 549755813888) (hi : 0 ≤ i ∧ i ≤ 1000000000000) :
    Calls Try.prog 31 #[viewV b t lv, .int .i64 i] w fun e w' => ∃ x dv, e = .returned (.tuple #[entV x dv, .bool (atB b es i)]) ∧ Byt w dv x.data ∧ x.data.length ≤ 140737488355328 ∧ (atB b es i = true → es[(i - b - 1).toNat]? = some x) ∧ w.grownBy w' none := by
  obtain ⟨a, c, rfl⟩ := h.len
  have HE := hid_mk h
  clear h
  unfold viewV
  have hbl := (show Blk ((w.alloc (.cells #[.int .i64 b, .int .i64 t, .slice a es.length c] 30)).alloc (.cells #[.int .i64 0, .int .i64 0, .int .i64 0, .slice none 0 0] 55)) (w.heap.size + 1) #[.int .i64 0, .int .i64 0, .int .i64 0, .slice none 0 0] 55 by
    have h2 := heap_alloc_new (w.alloc (.cells #[.int .i64 b, .int .i64 t, .slice a es.length c] 30)) (.cells #[.int .i64 0, .int .i64 0, .int .i64 0, .slice none 0 0] 55)
    rw [World.size_alloc] at h2
    exact h2)
  have HA := hid_mk (And.intro ((RB.new w b t (.slice a es.length c)).kept (World.grownBy_alloc _ (.cells #[.int .i64 0, .int .i64 0, .int .i64 0, .slice none 0 0] 55) none) (by simp)) (And.intro hbl (grown_trans (World.grownBy_alloc w (.cells #[.int .i64 b, .int .i64 t, .slice a es.length c] 30) none) (World.grownBy_alloc _ (.cells #[.int .i64 0, .int .i64 0, .int .i64 0, .slice none 0 0] 55) none))))
  clear hbl
  obtain ⟨n, hn⟩ : ∃ n, n = es.length := ⟨_, rfl⟩
  have HN := hid_mk hn
  rw [← hn] at hlen HA ⊢
  clear hn
  go_enter Try.func31, Try.ntmps31
  go_upto_region 1 with fail
  generalize (w.alloc (.cells #[.int .i64 b, .int .i64 t, .slice a n c] 30)).alloc (.cells #[.int .i64 0, .int .i64 0, .int .i64 0, .slice none 0 0] 55) = w1 at *
  obtain ⟨q, hq⟩ : ∃ q, q = w.heap.size := ⟨_, rfl⟩
  obtain ⟨r, hr⟩ : ∃ r, r = w.heap.size + 1 := ⟨_, rfl⟩
  rw [← hr, ← hq] at HA ⊢
  have HQ := hid_mk (show w.heap.size ≤ r by omega)
  clear hq hr
  obtain ⟨v0, v1, v2⟩ := HA.out.1.cells
  have e0 : w1.cell? ⟨r, 0, none⟩ = some (.int .i64 0) := HA.out.2.1.cell 0
  have e1 : w1.cell? ⟨r, 1, none⟩ = some (.int .i64 0) := HA.out.2.1.cell 1
  have e2 : w1.cell? ⟨r, 2, none⟩ = some (.int .i64 0) := HA.out.2.1.cell 2
  have e3 : w1.cell? ⟨r, 3, none⟩ = some (.slice none 0 0) := HA.out.2.1.cell 3
  have z0 := HA.out.2.1.frozen 0
  have z1 := HA.out.2.1.frozen 1
  have z2 := HA.out.2.1.frozen 2
  have z3 := HA.out.2.1.frozen 3
  have HP := hid_mk (ent_put HA.out.2.1 zeroE (.slice none 0 0))
  have hn4 : (n : Int) ≤ 4096 := by omega
  rcases Int.lt_or_le b i with h1 | h1
  · rcases Int.lt_or_le (b + n) i with h2 | h2
    · have HB := hid_mk (show atB b es i = false from by unfold atB; rw [← HN.out, decide_eq_false (show ¬ i ≤ b + n by omega)]; simp)
      go_wp2_with fail
      refine bodyPost_ret (ret_ent2 rfl _ _ _ zeroE (.slice none 0 0) rfl HP.out.1) rfl ?_
      exact ⟨zeroE, .slice none 0 0, by rw [HB.out]; rfl, Byt.nil _, by decide, fun h => (by rw [HB.out] at h; cases h), grown_new HA.out.2.2 HP.out.2 HQ.out⟩
    · obtain ⟨j, hj⟩ : ∃ j : Nat, (j : Int) = i - b - 1 := ⟨(i - b - 1).toNat, by omega⟩
      have hjn : j < n := by omega
      obtain ⟨x, hx⟩ : ∃ x, es[j]? = some x := ⟨es[j]'(by rw [← HN.out]; exact hjn), List.getElem?_eq_getElem _⟩
      obtain ⟨eb, eo, hae, -, hcs⟩ := HE.out.at (by rw [← HN.out]; omega)
      obtain ⟨dv, q0, q1, q2, q3, hxb, hxl⟩ := hcs j x hx
      obtain ⟨da, dc, hdv⟩ := hxb.len
      subst hae
      subst hdv
      have q0 := HA.out.2.2.cell q0 (by simp)
      have q1 := HA.out.2.2.cell q1 (by simp)
      have q2 := HA.out.2.2.cell q2 (by simp)
      have q3 := HA.out.2.2.cell q3 (by simp)
      have HB := hid_mk (show atB b es i = true from by unfold atB; rw [← HN.out, decide_eq_true h1, decide_eq_true h2]; rfl)
      have HX := hid_mk (show Byt w (.slice da x.data.length dc) x.data ∧ x.data.length ≤ 140737488355328 ∧ es[(i - b - 1).toNat]? = some x from ⟨hxb, hxl, by rw [← hj]; exact hx⟩)
      have HPX := hid_mk (ent_put HA.out.2.1 x (.slice da x.data.length dc))
      clear hxb hxl hx hcs HP
      obtain rfl : i = b + 1 + j := by omega
      have hj0 : (0 : Int) ≤ j := by omega
      have hjn' : (j : Int) < n := by omega
      have hs1 : b + 1 + (j : Int) - b - 1 = j := by omega
      clear hj
      go_wp2_with fail
      refine bodyPost_ret (ret_ent2 rfl _ _ _ x (.slice da x.data.length dc) rfl HPX.out.1) rfl ?_
      have hg := grown_new HA.out.2.2 HPX.out.2 HQ.out
      exact ⟨x, _, by rw [HB.out]; rfl, HX.out.1, HX.out.2.1, fun _ => HX.out.2.2, hg⟩
  · have HB := hid_mk (show atB b es i = false from by unfold atB; rw [decide_eq_false (show ¬ b < i by omega)]; rfl)
    go_wp2_with fail
    refine bodyPost_ret (ret_ent2 rfl _ _ _ zeroE (.slice none 0 0) rfl HP.out.1) rfl ?_
    exact ⟨zeroE, .slice none 0 0, by rw [HB.out]; rfl, Byt.nil _, by decide, fun h => (by rw [HB.out] at h; cases h), grown_new HA.out.2.2 HP.out.2 HQ.out⟩
end Go.Proofs.Ytcijjepleedecaa.W
