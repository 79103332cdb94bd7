/- Whether a view's entries go on. -/
import Derived.Test.YtcijjepleedecaaEnE
import Derived.Laws.ResultCell
namespace Go.Proofs.Ytcijjepleedecaa.W
open Go.RowKit Go.Maps
set_option linter.unusedVariables false
set_option linter.unusedSimpArgs false
set_option maxRecDepth 100000
attribute [local go_sem] Oper.semAt_some

theorem goB_drop {b t i t' : Int} {es : List Ent} {k : Nat} {x : Ent} (h : goB b t es = goB i t' (es.drop k)) (hx : es[k]? = some x) : goB b t es = (rightE x && decide (x.index = i + 1) && decide (t' ≤ x.term) && goB x.index x.term (es.drop (k + 1))) := by
  rw [h]
  obtain ⟨hk, rfl⟩ := List.getElem?_eq_some_iff.1 hx
  rw [List.drop_eq_getElem_cons hk]
  rfl
theorem load_one {P : Program} {ty : TypeId} {w : World} {g : Nat} {v : Value} (hc : w.cell? ⟨g, 0, none⟩ = some v) (hs : (loadVar ty ⟨g, 0, none⟩).run P w = .ok v w) : (loadVar ty ⟨g, 0, none⟩).run P w = .ok v w := hs
theorem ret_box4 {fn : Func} {p : Tmp} (h : fn.results = #[.cell p 4]) (tmps : Array Value) (w : World) (g : Nat) (v : Bool) (hp : tmps.getD p undef = .pointer (some ⟨g, 0, none⟩)) (hb : Boxed w g 4 (.bool v)) : (results fn tmps).run Try.prog w = .ok (.bool v) w := by
  have ha : (asAddr (.pointer (some ⟨g, 0, none⟩))).run Try.prog w = .ok ⟨g, 0, none⟩ w := by simp [asAddr]
  have hc := hb.cell
  rw [results_cell1 h, hp, ha]
  simp [Result.andThen, go_sem, hc]
theorem ret_box3 {fn : Func} {p : Tmp} (h : fn.results = #[.cell p 3]) (tmps : Array Value) (w : World) (g : Nat) (v : Int) (hp : tmps.getD p undef = .pointer (some ⟨g, 0, none⟩)) (hb : Boxed w g 3 (.int .i64 v)) : (results fn tmps).run Try.prog w = .ok (.int .i64 v) w := by
  have ha : (asAddr (.pointer (some ⟨g, 0, none⟩))).run Try.prog w = .ok ⟨g, 0, none⟩ w := by simp [asAddr]
  have hc := hb.cell
  rw [results_cell1 h, hp, ha]
  simp [Result.andThen, go_sem, hc]
/-- How a round begins: the entry in a box of its own, the loop's record turned. -/
theorem round_in (W : World) (x : Ent) (dv : Value) (l : Nat) (o' : Obj) {r : Loop} (hr : W.heap[l]? = some (.loop r)) :
    EB ((W.alloc (.cells #[.int .i64 x.term, .int .i64 x.index, .int .i64 x.kind, dv] 55)).putObj l o') W.heap.size x dv ∧ W.grownBy ((W.alloc (.cells #[.int .i64 x.term, .int .i64 x.index, .int .i64 x.kind, dv] 55)).putObj l o') (some l) ∧
    (∀ v d, Byt W v d → Byt ((W.alloc (.cells #[.int .i64 x.term, .int .i64 x.index, .int .i64 x.kind, dv] 55)).putObj l o') v d) ∧ ((W.alloc (.cells #[.int .i64 x.term, .int .i64 x.index, .int .i64 x.kind, dv] 55)).putObj l o').heap.size = W.heap.size + 1 ∧ ((W.alloc (.cells #[.int .i64 x.term, .int .i64 x.index, .int .i64 x.kind, dv] 55)).putObj l o').heap[l]? = some o' := by
  have hlt : l < W.heap.size := (Array.getElem?_eq_some_iff.1 hr).1
  have ga := World.grownBy_alloc W (.cells #[.int .i64 x.term, .int .i64 x.index, .int .i64 x.kind, dv] 55) none
  have gp := grownBy_putObj' (W.alloc (.cells #[.int .i64 x.term, .int .i64 x.index, .int .i64 x.kind, dv] 55)) l o'
  have hla : (W.alloc (.cells #[.int .i64 x.term, .int .i64 x.index, .int .i64 x.kind, dv] 55)).heap[l]? = some (.loop r) := (ga.block _ hlt (by simp)).trans hr
  refine ⟨(gp.block _ (by simp) (by simp; omega)).trans (heap_alloc_new _ _), grown_trans (grown_any ga _) gp, fun v d h => byt_loop (h.kept ga) hla o', ?_, World.putObj_heap_same (by rw [World.size_alloc]; omega)⟩
  simp [World.putObj]
/-- Where goesOn stands. -/
structure GoI (D : World → Prop) (w : World) (g r p3 p4 : Nat) (b t : Int) (lv : Value) (es : List Ent) (k : Nat) (W : World) : Prop where
  d : D W
  gr : w.grownBy W none
  res : Boxed W r 4 (.bool false)
  at_ : ∃ i t', Boxed W p3 3 (.int .i64 i) ∧ Boxed W p4 3 (.int .i64 t') ∧ goB b t es = goB i t' (es.drop k) ∧ -9223372036854775808 ≤ i ∧ i ≤ 9223372036854775807

theorem GoI.kept {D : World → Prop} {w : World} {g p3 p4 : Nat} {b t : Int} {lv : Value} {es : List Ent} {k : Nat} {X Y : World} {row : Option Nat} {lo hi : Nat} (h : GoI D w g (w.heap.size + 1) p3 p4 b t lv es k X)
    (hD : ∀ (X Y : World) (row : Option Nat), D X → X.grownBy Y row → (∀ r, row = some r → w.heap.size ≤ r ∧ (lo ≤ r → hi ≤ r)) → D Y) (hg : X.grownBy Y row) (hb : BkF hi X row) (hlo : lo ≤ hi) (h3 : p3 < lo) (h4 : p4 < lo) (l3 : w.heap.size + 2 ≤ p3) (l4 : w.heap.size + 2 ≤ p4) : GoI D w g (w.heap.size + 1) p3 p4 b t lv es k Y := by
  obtain ⟨q1, q2, q3, i, t', q4, q5, q6⟩ := h
  refine ⟨hD _ _ _ q1 hg (fun r e => ?_), hb.grown q2 hg (by omega), boxed_low q3 hg hb (by omega), i, t', boxed_low q4 hg hb (by omega), boxed_low q5 hg hb (by omega), q6⟩
  have := (hb r e).1
  omega

set_option maxHeartbeats 4000000 in
theorem goesOn_any (b t : Int) (lv : Value) (es : List Ent) (w : World) (h : EntsR w lv es) (hlen : es.length ≤ 10000000000000) (hbb : -9223372036854775808 ≤ b ∧ b ≤ 9223372036854775807) : Calls Try.prog 68 #[viewV b t lv] w fun e w' => e = .returned (.bool (goB b t es)) ∧ w.grownBy w' none := by
  obtain ⟨a, c, rfl⟩ := h.len
  have HE := hid_mk h
  clear h
  unfold viewV
  refine (callsIn_wide (n := 11)).1 ?_
  refine callsIn_of_wp_marks Try.func68 rfl trivial ?_ rfl
  simp only [Try.ntmps68, List.size_toArray, List.length_cons, List.length_nil, Nat.reduceAdd, Nat.reduceSub, Array.replicate_succ, Array.replicate_zero, List.push_toArray, List.append_toArray, List.nil_append, List.cons_append]
  have HA := hid_mk (show VB ((w.alloc (.cells #[.int .i64 b, .int .i64 t, .slice a es.length c] 26)).alloc (.cells #[.bool false] 4)) w.heap.size b t (.slice a es.length c) ∧ Boxed ((w.alloc (.cells #[.int .i64 b, .int .i64 t, .slice a es.length c] 26)).alloc (.cells #[.bool false] 4)) (w.heap.size + 1) 4 (.bool false) ∧ w.grownBy ((w.alloc (.cells #[.int .i64 b, .int .i64 t, .slice a es.length c] 26)).alloc (.cells #[.bool false] 4)) none from by
    have h1 := VB.new w b t (.slice a es.length c)
    have h2 := Boxed.new (w.alloc (.cells #[.int .i64 b, .int .i64 t, .slice a es.length c] 26)) 4 (.bool false)
    rw [World.size_alloc] at h2
    exact ⟨h1.kept (World.grownBy_alloc _ _ none) (by simp), h2, grown_trans (World.grownBy_alloc _ _ none) (World.grownBy_alloc _ _ none)⟩)
  have hs1 : ((w.alloc (.cells #[.int .i64 b, .int .i64 t, .slice a es.length c] 26)).alloc (.cells #[.bool false] 4)).heap.size = w.heap.size + 2 := by simp
  gi_upto_region 1 with fail
  generalize (w.alloc (.cells #[.int .i64 b, .int .i64 t, .slice a es.length c] 26)).alloc (.cells #[.bool false] 4) = w1 at *
  obtain ⟨v0, v1, v2⟩ := HA.out.1.cells
  have HW : ∀ (p q : Int), Hid (Boxed ((w1.alloc (.cells #[.int .i64 p] 3)).alloc (.cells #[.int .i64 q] 3)).drew (w.heap.size + 2) 3 (.int .i64 p) ∧ Boxed ((w1.alloc (.cells #[.int .i64 p] 3)).alloc (.cells #[.int .i64 q] 3)).drew (w.heap.size + 2 + 1) 3 (.int .i64 q) ∧ VB ((w1.alloc (.cells #[.int .i64 p] 3)).alloc (.cells #[.int .i64 q] 3)).drew w.heap.size b t (.slice a es.length c) ∧ Boxed ((w1.alloc (.cells #[.int .i64 p] 3)).alloc (.cells #[.int .i64 q] 3)).drew (w.heap.size + 1) 4 (.bool false) ∧ w.grownBy ((w1.alloc (.cells #[.int .i64 p] 3)).alloc (.cells #[.int .i64 q] 3)).drew none) := fun p q => hid_mk (by
    have g1 : w1.grownBy ((w1.alloc (.cells #[.int .i64 p] 3)).alloc (.cells #[.int .i64 q] 3)).drew none := grown_trans (grown_trans (World.grownBy_alloc _ _ none) (World.grownBy_alloc _ _ none)) (drawn _ 1)
    have h1 := Boxed.new w1 3 (.int .i64 p)
    have h2 := Boxed.new (w1.alloc (.cells #[.int .i64 p] 3)) 3 (.int .i64 q)
    rw [World.size_alloc, hs1] at h2
    rw [hs1] at h1
    exact ⟨(h1.alloc _).kept (drawn _ 1) (by simp), h2.kept (drawn _ 1) (by simp), HA.out.1.kept g1 (by simp), HA.out.2.1.kept g1 (by simp), grown_trans HA.out.2.2 g1⟩)
  gi_region
  focus
    have HG := HW b t
    clear HW v0 v1 v2 HA
    generalize ((w1.alloc (.cells #[.int .i64 b] 3)).alloc (.cells #[.int .i64 t] 3)).drew = w2 at *
    obtain ⟨p4, hp4⟩ : ∃ p, p = w.heap.size + 2 + 1 := ⟨_, rfl⟩
    obtain ⟨p3, hp3⟩ : ∃ p, p = w.heap.size + 2 := ⟨_, rfl⟩
    rw [← hp4, ← hp3] at HG ⊢
    obtain ⟨hn, hl3, hl4⟩ : p3 ≠ p4 ∧ w.heap.size + 2 ≤ p3 ∧ w.heap.size + 2 ≤ p4 := by omega
    clear hp3 hp4
    have HG2 := hid_mk (show Boxed w2 p3 3 (.int .i64 b) ∧ Boxed w2 p4 3 (.int .i64 t) ∧ VB w2 w.heap.size b t (.slice a es.length c) ∧ Boxed w2 (w.heap.size + 1) 4 (.bool false) ∧ w.grownBy w2 none from ⟨HG.out.1, HG.out.2.1, HG.out.2.2⟩)
    clear HG hs1
    clear w1
  rotate_left
  focus
    have HG := HW t b
    clear HW v0 v1 v2 HA
    generalize ((w1.alloc (.cells #[.int .i64 t] 3)).alloc (.cells #[.int .i64 b] 3)).drew = w2 at *
    obtain ⟨p3, hp3⟩ : ∃ p, p = w.heap.size + 2 + 1 := ⟨_, rfl⟩
    obtain ⟨p4, hp4⟩ : ∃ p, p = w.heap.size + 2 := ⟨_, rfl⟩
    rw [← hp3, ← hp4] at HG ⊢
    obtain ⟨hn, hl3, hl4⟩ : p3 ≠ p4 ∧ w.heap.size + 2 ≤ p3 ∧ w.heap.size + 2 ≤ p4 := by omega
    clear hp3 hp4
    have HG2 := hid_mk (show Boxed w2 p3 3 (.int .i64 b) ∧ Boxed w2 p4 3 (.int .i64 t) ∧ VB w2 w.heap.size b t (.slice a es.length c) ∧ Boxed w2 (w.heap.size + 1) 4 (.bool false) ∧ w.grownBy w2 none from ⟨HG.out.2.1, HG.out.1, HG.out.2.2⟩)
    clear HG hs1
    clear w1
  all_goals
    obtain ⟨v0, v1, v2⟩ := HG2.out.2.2.1.cells
    gi_wp2_with fail
    refine ⟨trivial, (callsIn_wide.2 (each_any b t _ es w w2 HE.out HG2.out.2.2.2.2 hlen)).mono ?_⟩
    rintro e w3 ⟨f, D, rfl, hsq, hg3⟩
    obtain ⟨gf, lb, hf, hseq⟩ := hsq.seq
    subst hf
    have HQ := hid_mk hseq
    have HS := hid_mk (And.intro hsq.now hsq.kept)
    have H3 := hid_mk (show Boxed w3 p3 3 (.int .i64 b) ∧ Boxed w3 p4 3 (.int .i64 t) ∧ Boxed w3 (w.heap.size + 1) 4 (.bool false) ∧ w.grownBy w3 none ∧ w2.heap.size ≤ w3.heap.size from ⟨HG2.out.1.kept hg3 (by simp), HG2.out.2.1.kept hg3 (by simp), HG2.out.2.2.2.1.kept hg3 (by simp), grown_trans HG2.out.2.2.2.2 hg3, hg3.size⟩)
    have HLT := hid_mk (show p3 < w2.heap.size ∧ p4 < w2.heap.size from ⟨HG2.out.1.lt, HG2.out.2.1.lt⟩)
    clear hsq hg3 hseq v0 v1 v2 HG2
    gi_wp2_with fail
    refine range_ents HQ.out rfl rfl (GoI D w w.heap.size (w.heap.size + 1) p3 p4 b t (.slice a es.length c) es) (fun k W h => h.d) ?clI (fun c W => c = .ret ∧ w.grownBy W none ∧ Boxed W (w.heap.size + 1) 4 (.bool false) ∧ goB b t es = false) ?clX ?start ?body ?done ?left
    case clI => exact fun k X Y row h hg hb => h.kept HS.out.2 hg hb H3.out.2.2.2.2 HLT.out.1 HLT.out.2 hl3 hl4
    case clX =>
      rintro c X Y row ⟨h1, h2, h3, h4⟩ hg hb
      have hz := H3.out.2.2.2.2
      have hl := HLT.out
      exact ⟨h1, hb.grown h2 hg (by omega), boxed_low h3 hg hb (by omega), h4⟩
    case start => exact ⟨HS.out.1, H3.out.2.2.2.1, H3.out.2.2.1, b, t, H3.out.1, H3.out.2.1, by simp, hbb⟩
    case done =>
      rintro D0 W2 hD ⟨h1, h2, h3, i, t', h4, h5, h6, _⟩ hK
      have hz := H3.out.2.2.2.2
      have hl := HLT.out
      have HX := hid_mk (show goB b t es = true ∧ w.grownBy W2 none ∧ Boxed W2 (w.heap.size + 1) 4 (.bool false) ∧ W2.heap[D0]? = some (.deferred (some [])) ∧ w.heap.size + 2 ≤ D0 from ⟨by rw [h6]; simp [goB], h2, h3, hK, by omega⟩)
      have qf := h3.frozen
      have qc := h3.cell
      clear h1 h2 h3 h4 h5 h6 hK hD hz hl
      gi_wp2_with fail
      have g := grown_setCell W2 (w.heap.size + 1) 0 (.bool true)
      have hx := HX.out
      have hlt := hx.2.2.1.lt
      have hk2 : (W2.setCell ⟨w.heap.size + 1, 0, none⟩ (.bool true)).heap[D0]? = some (.deferred (some [])) := (g.block _ (Array.getElem?_eq_some_iff.1 hx.2.2.2.1).1 (by simp; omega)).trans hx.2.2.2.1
      have g2 := grownBy_putObj' (W2.setCell ⟨w.heap.size + 1, 0, none⟩ (.bool true)) D0 (.deferred none)
      refine ⟨by simp, .inl ⟨_, _, rfl, run_takeDeferred hk2, ?_⟩⟩
      exact ⟨_, ret_box4 rfl _ _ _ true rfl ((hx.2.2.1.set _).kept g2 (by simp; omega)), by rw [hx.1], grown_new (grown_new hx.2.1 g (by omega)) g2 (by omega)⟩
    case left =>
      rintro D0 c W2 hD ⟨rfl, h1, h2, h3⟩ hK
      have hz := H3.out.2.2.2.2
      have hl := HLT.out
      have HX := hid_mk (show w.heap.size + 2 ≤ D0 from by omega)
      gi_wp2_with fail
      have g2 := grownBy_putObj' W2 D0 (.deferred none)
      have hd := HX.out
      refine ⟨by simp, .inl ⟨_, _, rfl, run_takeDeferred hK, ?_⟩⟩
      exact ⟨_, ret_box4 rfl _ _ _ false rfl (h2.kept g2 (by simp; omega)), by rw [h3], grown_new h1 g2 (by omega)⟩
    case body =>
      rintro l2 k x dv W2 rfl hsz hI hx hb hd hdf r hr
      obtain ⟨da, dn, dc, hdv⟩ : ∃ a n c, dv = .slice a n c := by
        obtain ⟨a, c, e⟩ := hb.len
        exact ⟨a, _, c, e⟩
      subst hdv
      unfold entV
      have HA := hid_mk (World.grownBy_alloc W2 (.cells #[.int .i64 x.term, .int .i64 x.index, .int .i64 x.kind, .slice da dn dc] 55) none)
      have HI := hid_mk (And.intro hsz (And.intro hI (And.intro hx (And.intro hb (And.intro hd (And.intro hdf hr))))))
      clear hsz hI hx hb hd hdf hr
      gi_wp2
      refine ⟨BkB.none HA.out HI.out.1, KpE.none HA.out, fun o' ho' => ?_⟩
      have HY := hid_mk (round_in W2 x (.slice da dn dc) (w3.heap.size + 1) o' HI.out.2.2.2.2.2.2)
      clear HA
      generalize (W2.alloc (.cells #[.int .i64 x.term, .int .i64 x.index, .int .i64 x.kind, .slice da dn dc] 55)).putObj (w3.heap.size + 1) o' = Y at *
      have HP := hid_mk (show GoI D w w.heap.size (w.heap.size + 1) p3 p4 b t (.slice a es.length c) es k Y ∧ Byt Y (.slice da dn dc) x.data ∧ w3.heap.size + 2 ≤ Y.heap.size ∧ es[k]? = some x ∧ x.data.length ≤ 140737488355328 from by
        obtain ⟨q1, q2, q3, q4, q5, q6, q7⟩ := HI.out
        obtain ⟨y1, y2, y3, y4, y5⟩ := HY.out
        exact ⟨q2.kept HS.out.2 y2 (fun r e => by cases e; exact ⟨by omega, _, q7, .inl (.inl ⟨_, rfl⟩)⟩) H3.out.2.2.2.2 HLT.out.1 HLT.out.2 hl3 hl4, y3 _ _ q4, by omega, q3, q5⟩)
      have HEB := hid_mk HY.out.1
      obtain ⟨gr, hgr⟩ : ∃ gr, gr = W2.heap.size := ⟨_, rfl⟩
      rw [← hgr] at HEB ⊢
      clear hgr HY HI
      obtain ⟨f0, f1, f2, f3, _⟩ := HEB.out.cells
      gi_wp2_with fail
      refine ⟨trivial, (CallsIn.inRound _ (callsIn_wide.2 (mayBe_any x _ Y HP.out.2.1 HP.out.2.2.2.2))).mono ?_⟩
      rintro e Y2 ⟨rfl, hg2⟩
      have HQ2 := hid_mk (show GoI D w w.heap.size (w.heap.size + 1) p3 p4 b t (.slice a es.length c) es k Y2 ∧ EB Y2 gr x (.slice da dn dc) ∧ BkB w3.heap.size Y Y2 ∧ KpE (w3.heap.size + 2) Y Y2 ∧ w3.heap.size + 2 ≤ Y2.heap.size ∧ es[k]? = some x from
        ⟨HP.out.1.kept HS.out.2 hg2 (BkF.none _ _) H3.out.2.2.2.2 HLT.out.1 HLT.out.2 hl3 hl4, HEB.out.kept hg2, BkB.none hg2 HP.out.2.2.1, KpE.none hg2, Nat.le_trans HP.out.2.2.1 hg2.size, HP.out.2.2.2.1⟩)
      clear hg2 HP HEB f0 f1 f2 f3
      obtain ⟨f0, f1, f2, f3, _⟩ := HQ2.out.2.1.cells
      obtain ⟨_, _, hres, i, t', hb3, hb4, hgo, hib⟩ := HQ2.out.1
      have HGO := hid_mk (goB_drop hgo HQ2.out.2.2.2.2.2)
      have HH := hid_mk (And.intro hres (And.intro hb3 hb4))
      have c3 := hb3.cell
      have c4 := hb4.cell
      have z3 := hb3.frozen
      have z4 := hb4.frozen
      have cr := hres.cell
      have zr := hres.frozen
      clear hres hb3 hb4 hgo
      have HSTOP := hid_mk (show ∀ h : goB b t es = false, BkB w3.heap.size Y (Y2.setCell ⟨w.heap.size + 1, 0, none⟩ (.bool false)) ∧ KpE (w3.heap.size + 2) Y (Y2.setCell ⟨w.heap.size + 1, 0, none⟩ (.bool false)) ∧ w.grownBy (Y2.setCell ⟨w.heap.size + 1, 0, none⟩ (.bool false)) none ∧ Boxed (Y2.setCell ⟨w.heap.size + 1, 0, none⟩ (.bool false)) (w.heap.size + 1) 4 (.bool false) ∧ goB b t es = false from fun h => by
        have g := grown_setCell Y2 (w.heap.size + 1) 0 (.bool false)
        have hz := H3.out.2.2.2.2
        have hl := HLT.out
        have hq := HQ2.out
        exact ⟨hq.2.2.1.trans ⟨g.block _ (by omega) (by simp; omega), g.block _ (by omega) (by simp; omega)⟩, hq.2.2.2.1.trans (KpE.low g (by omega)), grown_new hq.1.gr g (by omega), HH.out.1.set _, h⟩)
      cases hrx : rightE x with
      | false =>
        have HF := hid_mk (show goB b t es = false from by rw [HGO.out, hrx]; rfl)
        gi_wp2_with fail
        exact HSTOP.out HF.out
      | true =>
        have hspan := rightE_span hrx
        by_cases hi : x.index - 1 = i
        · by_cases ht : x.term < t'
          · have HF := hid_mk (show goB b t es = false from by rw [HGO.out, show decide (t' ≤ x.term) = false from decide_eq_false (by omega)]; simp)
            gi_wp2_with fail
            exact HSTOP.out HF.out
          · have HT := hid_mk (show goB b t es = goB x.index x.term (es.drop (k + 1)) from by rw [HGO.out, hrx, show decide (x.index = i + 1) = true from decide_eq_true (by omega), show decide (t' ≤ x.term) = true from decide_eq_true (by omega)]; simp)
            gi_wp2_with fail
            have g3 := grown_setCell Y2 p3 0 (.int .i64 x.index)
            have n3 : p3 ≠ gr := fun e => ne_tag (show Y2.heap[p3]? = some (.cells _ 3 (0, 0)) from HH.out.2.1) HQ2.out.2.1 (by decide) (congrArg some e)
            have e0 : (Y2.setCell ⟨p3, 0, none⟩ (.int .i64 x.index)).cell? ⟨gr, 0, none⟩ = some (.int .i64 x.term) := g3.cell f0 (by simp; omega)
            have e1 : (Y2.setCell ⟨p3, 0, none⟩ (.int .i64 x.index)).cell? ⟨p4, 0, none⟩ = some (.int .i64 t') := g3.cell c4 (by simp; omega)
            have e2 : (Y2.setCell ⟨p3, 0, none⟩ (.int .i64 x.index)).frozen? ⟨p4, 0, none⟩ = false := (HH.out.2.2.kept g3 (by simp; omega)).frozen
            have HN := hid_mk (show BkB w3.heap.size Y ((Y2.setCell ⟨p3, 0, none⟩ (.int .i64 x.index)).setCell ⟨p4, 0, none⟩ (.int .i64 x.term)) ∧ KpE (w3.heap.size + 2) Y ((Y2.setCell ⟨p3, 0, none⟩ (.int .i64 x.index)).setCell ⟨p4, 0, none⟩ (.int .i64 x.term)) ∧ GoI D w w.heap.size (w.heap.size + 1) p3 p4 b t (.slice a es.length c) es (k + 1) ((Y2.setCell ⟨p3, 0, none⟩ (.int .i64 x.index)).setCell ⟨p4, 0, none⟩ (.int .i64 x.term)) from by
              have g4 := grown_setCell (Y2.setCell ⟨p3, 0, none⟩ (.int .i64 x.index)) p4 0 (.int .i64 x.term)
              have hz := H3.out.2.2.2.2
              have hl := HLT.out
              obtain ⟨q1, q2, q3, q4, q5, q6⟩ := HQ2.out
              have s3 : (Y2.setCell ⟨p3, 0, none⟩ (.int .i64 x.index)).heap.size = Y2.heap.size := by simp [World.setCell]
              refine ⟨(q3.trans ⟨g3.block _ (by omega) (by simp; omega), g3.block _ (by omega) (by simp; omega)⟩).trans ⟨g4.block _ (by omega) (by simp; omega), g4.block _ (by omega) (by simp; omega)⟩, (q4.trans (KpE.low g3 (by omega))).trans (KpE.low g4 (by omega)), ?_, grown_new (grown_new q1.gr g3 (by omega)) g4 (by omega), (HH.out.1.kept g3 (by simp; omega)).kept g4 (by simp; omega), x.index, x.term, (HH.out.2.1.set _).kept g4 (by simp; omega), (HH.out.2.2.kept g3 (by simp; omega)).set _, HT.out, by omega⟩
              exact HS.out.2 _ _ _ (HS.out.2 _ _ _ q1.d g3 (fun r e => by cases e; omega)) g4 (fun r e => by cases e; omega))
            clear HQ2 HH HGO HSTOP HT
            gi_region
            all_goals (gi_wp2_with fail; exact ⟨HN.out.1.trans ⟨rfl, rfl⟩, HN.out.2.1.trans (KpE.none (drawn _ 1)), HN.out.2.2.kept HS.out.2 (drawn _ 1) (BkF.none _ _) H3.out.2.2.2.2 HLT.out.1 HLT.out.2 hl3 hl4⟩)
        · have HF := hid_mk (show goB b t es = false from by rw [HGO.out, show decide (x.index = i + 1) = false from decide_eq_false (by omega)]; simp)
          gi_wp2_with fail
          exact HSTOP.out HF.out
end Go.Proofs.Ytcijjepleedecaa.W
