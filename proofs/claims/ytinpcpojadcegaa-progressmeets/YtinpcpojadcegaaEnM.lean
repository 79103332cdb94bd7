/- Try. -/
import Derived.Test.YtinpcpojadcegaaEMy
namespace Go.Proofs.Ytinpcpojadcegaa.W
open Go.RowKit Go.Maps
set_option linter.unusedVariables false
set_option linter.unusedSimpArgs false
set_option maxRecDepth 100000
attribute [local go_sem] Oper.semAt_some

/-- What sent entries make of a view. -/
structure Fit where
  yes : Bool
  mt : Int
  cut : Int
  add : List Ent
def addL (b : Int) (n : Nat) (prev : Int) (l : List Ent) (c : Int) : List Ent := if c ≠ 0 then l.drop (plc prev l.length c) else l.drop (plc prev l.length (b + n + 1))
def tryF (b t : Int) (es : List Ent) (prev term : Int) (l : List Ent) : Fit :=
  if rightV b t es = true ∧ sendV prev term l = true then
    if hintZ b t es prev term ≠ 0 then ⟨false, hintZ b t es prev term, 0, []⟩
    else ⟨true, max (prev + l.length) b, clashZ b t es (l.drop (plc prev l.length (b + 1))), addL b es.length prev l (clashZ b t es (l.drop (plc prev l.length (b + 1))))⟩
  else ⟨false, 0, 0, []⟩
theorem tryF_no {b t : Int} {es : List Ent} {prev term : Int} {l : List Ent} (h : ¬ (rightV b t es = true ∧ sendV prev term l = true)) : tryF b t es prev term l = ⟨false, 0, 0, []⟩ := by unfold tryF; rw [if_neg h]
theorem tryF_hint {b t : Int} {es : List Ent} {prev term : Int} {l : List Ent} (h : rightV b t es = true) (h' : sendV prev term l = true) (hh : hintZ b t es prev term ≠ 0) : tryF b t es prev term l = ⟨false, hintZ b t es prev term, 0, []⟩ := by unfold tryF; rw [if_pos ⟨h, h'⟩, if_pos hh]
theorem tryF_yes {b t : Int} {es : List Ent} {prev term : Int} {l : List Ent} (h : rightV b t es = true) (h' : sendV prev term l = true) (hh : hintZ b t es prev term = 0) : tryF b t es prev term l = ⟨true, max (prev + l.length) b, clashZ b t es (l.drop (plc prev l.length (b + 1))), addL b es.length prev l (clashZ b t es (l.drop (plc prev l.length (b + 1))))⟩ := by unfold tryF; rw [if_pos ⟨h, h'⟩, if_neg (by simpa using hh)]
theorem hint_prev {b t : Int} {es : List Ent} {prev term : Int} (h : rightV b t es = true) (hh : hintZ b t es prev term = 0) : prev ≤ b + es.length := by
  by_cases hc : b + es.length < prev
  · rw [hintZ_high hc] at hh
    have := rightV_spec h
    omega
  · omega
def fitV (f : Fit) (av : Value) : Value := .agg #[.bool f.yes, .int .i64 f.mt, .int .i64 f.cut, av]
/-- A fit in a block. -/
def FB (W : World) (g : Nat) (y : Bool) (m c : Int) (av : Value) : Prop := W.heap[g]? = some (.cells #[.bool y, .int .i64 m, .int .i64 c, av] 56 (0, 0))
theorem FB.kept {W W' : World} {g : Nat} {y : Bool} {m c : Int} {av : Value} {row : Option Nat} (h : FB W g y m c av) (hg : W.grownBy W' row) (hr : some g ≠ row) : FB W' g y m c av := (hg.block g (Array.getElem?_eq_some_iff.1 h).1 hr).trans h
theorem FB.cells {W : World} {g : Nat} {y : Bool} {m c : Int} {av : Value} (h : FB W g y m c av) : W.cell? ⟨g, 0, none⟩ = some (.bool y) ∧ W.cell? ⟨g, 1, none⟩ = some (.int .i64 m) ∧ W.cell? ⟨g, 2, none⟩ = some (.int .i64 c) ∧ W.cell? ⟨g, 3, none⟩ = some av := by
  have h' : W.heap[g]? = _ := h
  exact ⟨by simp [World.cell?, h'], by simp [World.cell?, h'], by simp [World.cell?, h'], by simp [World.cell?, h']⟩
theorem FB.frozen {W : World} {g i : Nat} {y : Bool} {m c : Int} {av : Value} (h : FB W g y m c av) : W.frozen? ⟨g, i, none⟩ = false := by
  have h' : W.heap[g]? = _ := h
  simp [World.frozen?, h']
theorem VB.frozen {W : World} {g i : Nat} {b t : Int} {lv : Value} (h : VB W g b t lv) : W.frozen? ⟨g, i, none⟩ = false := by
  have h' : W.heap[g]? = _ := h
  simp [World.frozen?, h']

theorem load51 (w : World) (b : Nat) (c0 c1 c2 c3 : Value) (h0 : w.cell? ⟨b, 0, none⟩ = some c0) (h1 : w.cell? ⟨b, 1, none⟩ = some c1) (h2 : w.cell? ⟨b, 2, none⟩ = some c2) (h3 : w.cell? ⟨b, 3, none⟩ = some c3) : (loadVar 56 ⟨b, 0, none⟩).run Try.prog w = .ok (.agg #[c0, c1, c2, c3]) w := by
  simp [go_sem, h0, h1, h2, h3]
theorem load25 (w : World) (b : Nat) (c0 c1 c2 : Value) (h0 : w.cell? ⟨b, 0, none⟩ = some c0) (h1 : w.cell? ⟨b, 1, none⟩ = some c1) (h2 : w.cell? ⟨b, 2, none⟩ = some c2) : (loadVar 25 ⟨b, 0, none⟩).run Try.prog w = .ok (.agg #[c0, c1, c2]) w := by
  simp [go_sem, h0, h1, h2]
theorem ret_fit {fn : Func} {p : Tmp} (h : fn.results = #[.cell p 56]) (tmps : Array Value) (w : World) (g : Nat) (y : Bool) (m c : Int) (av : Value) (hp : tmps.getD p undef = .pointer (some ⟨g, 0, none⟩)) (hb : FB w g y m c av) : (results fn tmps).run Try.prog w = .ok (.agg #[.bool y, .int .i64 m, .int .i64 c, av]) w := by
  have ha : (asAddr (.pointer (some ⟨g, 0, none⟩))).run Try.prog w = .ok ⟨g, 0, none⟩ w := by simp [asAddr]
  obtain ⟨c0, c1, c2, c3⟩ := hb.cells
  rw [results_cell1 h, hp, ha]
  simp only [Result.andThen]
  rw [load51 w g _ _ _ _ c0 c1 c2 c3]
theorem ret_view {fn : Func} {p : Tmp} (h : fn.results = #[.cell p 25]) (tmps : Array Value) (w : World) (g : Nat) (b t : Int) (lv : Value) (hp : tmps.getD p undef = .pointer (some ⟨g, 0, none⟩)) (hb : VB w g b t lv) : (results fn tmps).run Try.prog w = .ok (viewV b t lv) w := by
  have ha : (asAddr (.pointer (some ⟨g, 0, none⟩))).run Try.prog w = .ok ⟨g, 0, none⟩ w := by simp [asAddr]
  obtain ⟨c0, c1, c2⟩ := hb.cells
  rw [results_cell1 h, hp, ha]
  simp only [Result.andThen]
  rw [load25 w g _ _ _ c0 c1 c2]
  rfl
theorem FB.put {W : World} {g : Nat} {y0 : Bool} {m0 c0 : Int} {av0 : Value} (h : FB W g y0 m0 c0 av0) (y : Bool) (m c : Int) (av : Value) :
    FB ((((W.setCell ⟨g, 0, none⟩ (.bool y)).setCell ⟨g, 1, none⟩ (.int .i64 m)).setCell ⟨g, 2, none⟩ (.int .i64 c)).setCell ⟨g, 3, none⟩ av) g y m c av ∧ W.grownBy ((((W.setCell ⟨g, 0, none⟩ (.bool y)).setCell ⟨g, 1, none⟩ (.int .i64 m)).setCell ⟨g, 2, none⟩ (.int .i64 c)).setCell ⟨g, 3, none⟩ av) (some g) := by
  have h' : W.heap[g]? = _ := h
  refine ⟨?_, grown_trans (grown_trans (grown_trans (grown_setCell _ _ _ _) (grown_setCell _ _ _ _)) (grown_setCell _ _ _ _)) (grown_setCell _ _ _ _)⟩
  unfold FB
  simp [World.setCell, Array.getElem?_modify, h']

theorem EO.base {w w1 W : World} {v : Value} {ps : List (Ent × Value)} (h : EO w1 W v ps) (hg : w.grownBy w1 none) : EO w W v ps :=
  ⟨row_base h.row hg.size, fun p hp => ⟨row_base (h.own p hp).1 hg.size, (h.own p hp).2⟩, grown_trans hg h.gr⟩
theorem FB.set3 {W : World} {g : Nat} {y : Bool} {m c : Int} {av : Value} (h : FB W g y m c av) (av' : Value) : FB (W.setCell ⟨g, 3, none⟩ av') g y m c av' := by
  have h' : W.heap[g]? = _ := h
  unfold FB
  simp [World.setCell, Array.getElem?_modify, h']
theorem FB.lt {W : World} {g : Nat} {y : Bool} {m c : Int} {av : Value} (h : FB W g y m c av) : g < W.heap.size := (Array.getElem?_eq_some_iff.1 h).1
theorem addL_cut {b : Int} {n : Nat} {prev : Int} {l : List Ent} {c : Int} (h : c ≠ 0) : addL b n prev l c = l.drop (plc prev l.length c) := by unfold addL; rw [if_pos h]
theorem addL_no {b : Int} {n : Nat} {prev : Int} {l : List Ent} {c : Int} (h : c = 0) : addL b n prev l c = l.drop (plc prev l.length (b + n + 1)) := by unfold addL; rw [if_neg (by simpa using h)]
theorem clashZ_I64 {b t : Int} {es : List Ent} (hb : 0 ≤ b ∧ b ≤ 549755813888) (hn : es.length ≤ 4096) : ∀ l : List Ent, -9223372036854775808 ≤ clashZ b t es l ∧ clashZ b t es l ≤ 9223372036854775807 ∨ ∃ x ∈ l, clashZ b t es l = x.index
  | [] => .inl (by simp [clashZ])
  | x :: r => by
    unfold clashZ
    split
    · exact .inr ⟨x, by simp, rfl⟩
    · rcases clashZ_I64 hb hn r with h | ⟨y, hy, e⟩
      · exact .inl h
      · exact .inr ⟨y, by simp [hy], e⟩

theorem clash_I64 {b t : Int} {es : List Ent} {prev term : Int} {l : List Ent} {C0 : Int} (hr : rightV b t es = true) (hgo : goB prev term l = true) (hc : C0 = clashZ b t es (l.drop (plc prev l.length (b + 1)))) : I64 C0 := by
  obtain ⟨hb0, hb1, _, _, hl1, _⟩ := rightV_spec hr
  unfold I64
  rcases clashZ_I64 (t := t) ⟨hb0, hb1⟩ hl1 (l.drop (plc prev l.length (b + 1))) with h | ⟨x, hx, e⟩
  · rw [hc]; exact h
  · obtain ⟨k, hk⟩ := List.mem_iff_getElem?.1 (List.mem_of_mem_drop hx)
    have := rightE_span (goB_at l hgo k x hk).2.2
    rw [hc, e]
    omega

set_option maxHeartbeats 4000000 in
theorem try_any (b t : Int) (lv : Value) (es : List Ent) (prev term : Int) (lv2 : Value) (l : List Ent) (w : World) (h : EntsR w lv es) (h2 : EntsR w lv2 l) (hn : es.length ≤ 10000000000000) (hn2 : l.length ≤ 10000000000000) (hb : I64 b) (hp : I64 prev) :
    Calls Try.prog 21 #[viewV b t lv, .int .i64 prev, .int .i64 term, lv2] w fun e w' => ∃ av ps, e = .returned (fitV (tryF b t es prev term l) av) ∧ EO w w' av ps ∧ ps.map (·.1) = (tryF b t es prev term l).add := by
  obtain ⟨a, c, rfl⟩ := h.len
  obtain ⟨a2, c2, rfl⟩ := h2.len
  have HE := hid_mk (And.intro h (And.intro h2 (And.intro hb hp)))
  clear h h2 hb hp
  have hV : viewV b t (.slice a es.length c) = .agg #[.int .i64 b, .int .i64 t, .slice a es.length c] := rfl
  have hV2 : viewV prev term (.slice a2 l.length c2) = .agg #[.int .i64 prev, .int .i64 term, .slice a2 l.length c2] := rfl
  have HV := hid_mk hV
  have HV2 := hid_mk hV2
  rw [hV]
  clear hV hV2
  have HA := hid_mk (show VB (((w.alloc (.cells #[.int .i64 b, .int .i64 t, .slice a es.length c] 25)).alloc (.cells #[.bool false, .int .i64 0, .int .i64 0, .slice none 0 0] 56)).alloc (.cells #[.int .i64 prev, .int .i64 term, .slice a2 l.length c2] 25)) w.heap.size b t (.slice a es.length c) ∧ FB (((w.alloc (.cells #[.int .i64 b, .int .i64 t, .slice a es.length c] 25)).alloc (.cells #[.bool false, .int .i64 0, .int .i64 0, .slice none 0 0] 56)).alloc (.cells #[.int .i64 prev, .int .i64 term, .slice a2 l.length c2] 25)) (w.heap.size + 1) false 0 0 (.slice none 0 0) ∧ VB (((w.alloc (.cells #[.int .i64 b, .int .i64 t, .slice a es.length c] 25)).alloc (.cells #[.bool false, .int .i64 0, .int .i64 0, .slice none 0 0] 56)).alloc (.cells #[.int .i64 prev, .int .i64 term, .slice a2 l.length c2] 25)) (w.heap.size + 1 + 1) prev term (.slice a2 l.length c2) ∧ w.grownBy (((w.alloc (.cells #[.int .i64 b, .int .i64 t, .slice a es.length c] 25)).alloc (.cells #[.bool false, .int .i64 0, .int .i64 0, .slice none 0 0] 56)).alloc (.cells #[.int .i64 prev, .int .i64 term, .slice a2 l.length c2] 25)) none ∧ (((w.alloc (.cells #[.int .i64 b, .int .i64 t, .slice a es.length c] 25)).alloc (.cells #[.bool false, .int .i64 0, .int .i64 0, .slice none 0 0] 56)).alloc (.cells #[.int .i64 prev, .int .i64 term, .slice a2 l.length c2] 25)).heap.size = w.heap.size + 3 from by
    have h1 := VB.new w b t (.slice a es.length c)
    have h2 : FB ((w.alloc (.cells #[.int .i64 b, .int .i64 t, .slice a es.length c] 25)).alloc (.cells #[.bool false, .int .i64 0, .int .i64 0, .slice none 0 0] 56)) _ false 0 0 (.slice none 0 0) := heap_alloc_new _ _
    have h3 := VB.new ((w.alloc (.cells #[.int .i64 b, .int .i64 t, .slice a es.length c] 25)).alloc (.cells #[.bool false, .int .i64 0, .int .i64 0, .slice none 0 0] 56)) prev term (.slice a2 l.length c2)
    rw [World.size_alloc] at h2
    rw [World.size_alloc, World.size_alloc] at h3
    exact ⟨(h1.kept (World.grownBy_alloc _ _ none) (by simp)).kept (World.grownBy_alloc _ _ none) (by simp), h2.kept (World.grownBy_alloc _ _ none) (by simp), h3, grown_trans (grown_trans (World.grownBy_alloc _ _ none) (World.grownBy_alloc _ _ none)) (World.grownBy_alloc _ _ none), by simp⟩)
  go_enter Try.func21, Try.ntmps21
  go_upto_region 2 with fail
  generalize ((w.alloc (.cells #[.int .i64 b, .int .i64 t, .slice a es.length c] 25)).alloc (.cells #[.bool false, .int .i64 0, .int .i64 0, .slice none 0 0] 56)).alloc (.cells #[.int .i64 prev, .int .i64 term, .slice a2 l.length c2] 25) = w1 at *
  obtain ⟨v0, v1, v2⟩ := HA.out.1.cells
  go_wp2_with fail
  rw [← HV.out]
  refine (rightV_any b t _ es w1 (HE.out.1.kept HA.out.2.2.2.1) hn HE.out.2.2.1).mono ?_
  rintro e w2 ⟨rfl, hg⟩
  rw [HV.out]
  have HG2 := hid_mk (show VB w2 w.heap.size b t (.slice a es.length c) ∧ FB w2 (w.heap.size + 1) false 0 0 (.slice none 0 0) ∧ VB w2 (w.heap.size + 1 + 1) prev term (.slice a2 l.length c2) ∧ w.grownBy w2 none ∧ w.heap.size + 3 ≤ w2.heap.size from by
    obtain ⟨q1, q2, q3, q4, q5⟩ := HA.out
    exact ⟨q1.kept hg (by simp), q2.kept hg (by simp), q3.kept hg (by simp), grown_trans q4 hg, by have := hg.size; omega⟩)
  clear hg v0 v1 v2 HA
  cases hr : rightV b t es with
  | false =>
    have HT := hid_mk (tryF_no (b := b) (t := t) (es := es) (prev := prev) (term := term) (l := l) (fun h => by rw [hr] at h; cases h.1))
    obtain ⟨r0, r1, r2, r3⟩ := HG2.out.2.1.cells
    have z0 := HG2.out.2.1.frozen (i := 0)
    have z1 := HG2.out.2.1.frozen (i := 1)
    have z2 := HG2.out.2.1.frozen (i := 2)
    have z3 := HG2.out.2.1.frozen (i := 3)
    go_wp2_with fail
    obtain ⟨p1, p2⟩ := HG2.out.2.1.put false 0 0 (.slice none 0 0)
    refine bodyPost_ret (ret_fit rfl _ _ _ _ _ _ _ rfl p1) rfl ?_
    rw [HT.out]
    exact ⟨_, [], rfl, EO.nil (grown_new HG2.out.2.2.2.1 p2 (by omega)), rfl⟩
  | true =>
    obtain ⟨v0, v1, v2⟩ := HG2.out.2.2.1.cells
    go_wp2_with fail
    rw [← HV2.out]
    refine (send_any prev term _ l w2 (HE.out.2.1.kept HG2.out.2.2.2.1) hn2 HE.out.2.2.2).mono ?_
    rintro e w3 ⟨rfl, hg⟩
    rw [HV2.out]
    have HG3 := hid_mk (show VB w3 w.heap.size b t (.slice a es.length c) ∧ FB w3 (w.heap.size + 1) false 0 0 (.slice none 0 0) ∧ VB w3 (w.heap.size + 1 + 1) prev term (.slice a2 l.length c2) ∧ w.grownBy w3 none ∧ w.heap.size + 3 ≤ w3.heap.size from by
      obtain ⟨q1, q2, q3, q4, q5⟩ := HG2.out
      exact ⟨q1.kept hg (by simp), q2.kept hg (by simp), q3.kept hg (by simp), grown_trans q4 hg, by have := hg.size; omega⟩)
    clear hg v0 v1 v2 HG2
    cases hs : sendV prev term l with
    | false =>
      have HT := hid_mk (tryF_no (b := b) (t := t) (es := es) (prev := prev) (term := term) (l := l) (fun h => by rw [hs] at h; cases h.2))
      obtain ⟨r0, r1, r2, r3⟩ := HG3.out.2.1.cells
      have z0 := HG3.out.2.1.frozen (i := 0)
      have z1 := HG3.out.2.1.frozen (i := 1)
      have z2 := HG3.out.2.1.frozen (i := 2)
      have z3 := HG3.out.2.1.frozen (i := 3)
      go_wp2_with fail
      obtain ⟨p1, p2⟩ := HG3.out.2.1.put false 0 0 (.slice none 0 0)
      refine bodyPost_ret (ret_fit rfl _ _ _ _ _ _ _ rfl p1) rfl ?_
      rw [HT.out]
      exact ⟨_, [], rfl, EO.nil (grown_new HG3.out.2.2.2.1 p2 (by omega)), rfl⟩
    | true =>
      have HRS := hid_mk (And.intro hr hs)
      obtain ⟨hb0, hb1, _, _, hl1, hgo⟩ := rightV_spec hr
      obtain ⟨hp0, _, hl2, hgo2⟩ := sendV_spec hs
      have HGO := hid_mk (And.intro hgo hgo2)
      clear hr hs hgo hgo2
      obtain ⟨v0, v1, v2⟩ := HG3.out.1.cells
      go_wp2_with fail
      rw [← HV.out]
      refine (hint_any b t _ es prev term w3 (HE.out.1.kept HG3.out.2.2.2.1) HRS.out.1).mono ?_
      rintro e w4 ⟨rfl, hg⟩
      rw [HV.out]
      have HG4 := hid_mk (show VB w4 w.heap.size b t (.slice a es.length c) ∧ FB w4 (w.heap.size + 1) false 0 0 (.slice none 0 0) ∧ VB w4 (w.heap.size + 1 + 1) prev term (.slice a2 l.length c2) ∧ w.grownBy w4 none ∧ w.heap.size + 3 ≤ w4.heap.size from by
        obtain ⟨q1, q2, q3, q4, q5⟩ := HG3.out
        exact ⟨q1.kept hg (by simp), q2.kept hg (by simp), q3.kept hg (by simp), grown_trans q4 hg, by have := hg.size; omega⟩)
      clear hg v0 v1 v2 HG3
      by_cases hh : hintZ b t es prev term = 0
      · have HT := hid_mk (tryF_yes HRS.out.1 HRS.out.2 hh)
        have hpl := hint_prev HRS.out.1 hh
        rw [hh]
        clear hh
        obtain ⟨v0, v1, v2⟩ := HG4.out.1.cells
        go_wp2_with fail
        rw [← HV.out]
        refine (end_any b t _ es w4 (HE.out.1.kept HG4.out.2.2.2.1) hn).mono ?_
        rintro e w5 ⟨rfl, hg⟩
        rw [HV.out, endI_of HGO.out.1]
        have HG5 := hid_mk (show VB w5 w.heap.size b t (.slice a es.length c) ∧ FB w5 (w.heap.size + 1) false 0 0 (.slice none 0 0) ∧ VB w5 (w.heap.size + 1 + 1) prev term (.slice a2 l.length c2) ∧ w.grownBy w5 none ∧ w.heap.size + 3 ≤ w5.heap.size from by
          obtain ⟨q1, q2, q3, q4, q5⟩ := HG4.out
          exact ⟨q1.kept hg (by simp), q2.kept hg (by simp), q3.kept hg (by simp), grown_trans q4 hg, by have := hg.size; omega⟩)
        clear hg v0 v1 v2 HG4
        obtain ⟨T0, hT0⟩ : ∃ T0, T0 = endT t es := ⟨_, rfl⟩
        rw [← hT0]
        clear hT0
        obtain ⟨v0, v1, v2⟩ := HG5.out.2.2.1.cells
        go_wp2_with fail
        rw [← HV2.out]
        refine (end_any prev term _ l w5 (HE.out.2.1.kept HG5.out.2.2.2.1) hn2).mono ?_
        rintro e w6 ⟨rfl, hg⟩
        rw [HV2.out, endI_of HGO.out.2]
        have HG6 := hid_mk (show VB w6 w.heap.size b t (.slice a es.length c) ∧ FB w6 (w.heap.size + 1) false 0 0 (.slice none 0 0) ∧ VB w6 (w.heap.size + 1 + 1) prev term (.slice a2 l.length c2) ∧ w.grownBy w6 none ∧ w.heap.size + 3 ≤ w6.heap.size from by
          obtain ⟨q1, q2, q3, q4, q5⟩ := HG5.out
          exact ⟨q1.kept hg (by simp), q2.kept hg (by simp), q3.kept hg (by simp), grown_trans q4 hg, by have := hg.size; omega⟩)
        clear hg v0 v1 v2 HG5
        obtain ⟨T1, hT1⟩ : ∃ T1, T1 = endT term l := ⟨_, rfl⟩
        rw [← hT1]
        clear hT1
        go_upto_region 9 with fail
        have HCL : ∀ W, w6.grownBy W none → W.cell? ⟨w.heap.size, 0, none⟩ = some (.int .i64 b) ∧ W.cell? ⟨w.heap.size, 1, none⟩ = some (.int .i64 t) ∧ W.cell? ⟨w.heap.size, 2, none⟩ = some (.slice a es.length c) ∧ W.cell? ⟨w.heap.size + 1 + 1, 0, none⟩ = some (.int .i64 prev) ∧ W.cell? ⟨w.heap.size + 1 + 1, 1, none⟩ = some (.int .i64 term) ∧ W.cell? ⟨w.heap.size + 1 + 1, 2, none⟩ = some (.slice a2 l.length c2) := fun W hW => by
          obtain ⟨x0, x1, x2⟩ := (HG6.out.1.kept hW (by simp)).cells
          exact ⟨x0, x1, x2, (HG6.out.2.2.1.kept hW (by simp)).cells⟩
        obtain ⟨C0, hC0⟩ : ∃ C0, C0 = clashZ b t es (l.drop (plc prev l.length (b + 1))) := ⟨_, rfl⟩
        obtain ⟨M0, hM0⟩ : ∃ M0, M0 = max (prev + l.length) b := ⟨_, rfl⟩
        rw [← hC0, ← hM0] at HT
        have HC0 := hid_mk hC0
        have HM0 := hid_mk hM0
        clear hC0 hM0
        have HX0 := hid_mk (show BS w6 w6 #[.bool false, .int .i64 0, .int .i64 0, .slice none 0 0] 56 none from ⟨grown_refl _ _, fun q e => by cases e⟩)
        refine wp_region_fork (X := fun _ _ _ => False) [(0, true), (1, true), (2, true), (3, true), (4, true), (5, true)] 4 #[true, true, true, true, true, true, false, false, false, false] (cl w6 w6) (by kernel_rfl) (by kernel_rfl) rfl (by kernel_rfl) (fun _ _ _ h => h.elim) (shut_at0 (fun mm => grown_drewN _ mm _)) ⟨1, rfl⟩ ?_
        iterate 3 (refine mix_rd1X rfl rfl (fun K hK => ?_); apply Exists.intro; refine ⟨fun W0 hW => ?_, ?_⟩; (obtain ⟨d0, d1, d2, d3, d4, d5⟩ := HCL W0 hW; go_simp; rfl); (go_simp; refine hK _ _ ?_; clear hK K))
        refine mix_rdX rfl rfl (.int .i64 M0) (fun W0 hW => ?mx) ?_
        case mx =>
          go_simp
          rw [HM0.out]
          split <;> omega
        repeat (refine mix_rd1X rfl rfl (fun K hK => ?_); apply Exists.intro; refine ⟨fun W0 hW => ?_, ?_⟩; (obtain ⟨d0, d1, d2, d3, d4, d5⟩ := HCL W0 hW; go_simp; rfl); (go_simp; refine hK _ _ ?_; clear hK K))
        refine mix_nilX ?_
        refine fork2 6 8 (by kernel_rfl) ?_ ?_
        focus
          refine bs_call HX0.out 42 #[viewV b t (.slice a es.length c), viewV prev term (.slice a2 l.length c2)] (fun v _ _ => v = .int .i64 C0) rfl rfl (fun W => by rw [HV.out, HV2.out]; go_simp) (fun W1 hW1 => (clash_any b t _ es prev term _ l W1 (HE.out.1.kept (grown_trans HG6.out.2.2.2.1 hW1)) (HE.out.2.1.kept (grown_trans HG6.out.2.2.2.1 hW1)) HRS.out.1 (by omega) hl2 HGO.out.2).mono (by rintro e W' ⟨rfl, hg⟩; exact ⟨_, rfl, by rw [HC0.out], hg⟩)) ?_
          intro K hK v W1 W' H
          obtain ⟨hbs, hg1, hg2, hv⟩ := H.out
          subst hv
          clear H
          go_simp
          refine hK _ _ ?_
          clear hK K
          refine reads_first (by kernel_rfl) [(7, true)] 2 3 rfl _ #[true, true, true, true, true, true, true, true, false, false] (by kernel_rfl) ?_
          repeat (refine mix_rd1X rfl rfl (fun K hK => ?_); apply Exists.intro; refine ⟨fun W0 hW => ?_, ?_⟩; (go_simp; rfl); (go_simp; refine hK _ _ ?_; clear hK K))
          refine mix_nilX ?_
          refine fork1 8 (by kernel_rfl) ?_
          refine bs_box #[.bool false, .int .i64 0, .int .i64 0, .slice none 0 0] hbs rfl rfl (fun W => by go_simp) ?_
          intro K hK q Wb HB
          go_simp
          refine hK _ _ ?_
          clear hK K
          refine fork1 9 (by kernel_rfl) ?_
          refine bs_store q HB.out.1 #[.bool true, .int .i64 M0, .int .i64 C0, .slice none 0 0] (fun W => (((W.setCell ⟨q, 0, none⟩ (.bool true)).setCell ⟨q, 1, none⟩ (.int .i64 M0)).setCell ⟨q, 2, none⟩ (.int .i64 C0)).setCell ⟨q, 3, none⟩ (.slice none 0 0)) (fun W hb => FB.put (show FB W q false 0 0 (.slice none 0 0) from hb) _ _ _ _) rfl rfl (fun W hb => by
            obtain ⟨e0, e1, e2, e3⟩ := (show FB W q false 0 0 (.slice none 0 0) from hb).cells
            have ef := fun j => hb.frozen j
            first | (left; go_simp; done) | (right; apply Exists.intro; go_simp; rfl) | (right; apply Exists.intro; go_simp)) rfl ?_
          intro K hK Ws HS
          refine hK _ _ ?_
          clear hK K
          refine fork_end (by kernel_rfl) ?_
          rintro Wz ⟨mz, rfl⟩
        rotate_left
        focus
          refine bs_box #[.bool false, .int .i64 0, .int .i64 0, .slice none 0 0] HX0.out rfl rfl (fun W => by go_simp) ?_
          intro K hK q Wb HB
          go_simp
          refine hK _ _ ?_
          clear hK K
          refine fork1 6 (by kernel_rfl) ?_
          refine bs_call HB.out.1 42 #[viewV b t (.slice a es.length c), viewV prev term (.slice a2 l.length c2)] (fun v _ _ => v = .int .i64 C0) rfl rfl (fun W => by rw [HV.out, HV2.out]; go_simp) (fun W1 hW1 => (clash_any b t _ es prev term _ l W1 (HE.out.1.kept (grown_trans HG6.out.2.2.2.1 (grown_trans HB.out.2 hW1))) (HE.out.2.1.kept (grown_trans HG6.out.2.2.2.1 (grown_trans HB.out.2 hW1))) HRS.out.1 (by omega) hl2 HGO.out.2).mono (by rintro e W' ⟨rfl, hg⟩; exact ⟨_, rfl, by rw [HC0.out], hg⟩)) ?_
          intro K hK v W1 W' H
          obtain ⟨hbs, hg1, hg2, hv⟩ := H.out
          subst hv
          clear H
          go_simp
          refine hK _ _ ?_
          clear hK K
          refine reads_first (by kernel_rfl) [(7, true)] 1 2 rfl _ #[true, true, true, true, true, true, true, true, true, false] (by kernel_rfl) ?_
          repeat (refine mix_rd1X rfl rfl (fun K hK => ?_); apply Exists.intro; refine ⟨fun W0 hW => ?_, ?_⟩; (go_simp; rfl); (go_simp; refine hK _ _ ?_; clear hK K))
          refine mix_nilX ?_
          refine fork1 9 (by kernel_rfl) ?_
          refine bs_store q hbs #[.bool true, .int .i64 M0, .int .i64 C0, .slice none 0 0] (fun W => (((W.setCell ⟨q, 0, none⟩ (.bool true)).setCell ⟨q, 1, none⟩ (.int .i64 M0)).setCell ⟨q, 2, none⟩ (.int .i64 C0)).setCell ⟨q, 3, none⟩ (.slice none 0 0)) (fun W hb => FB.put (show FB W q false 0 0 (.slice none 0 0) from hb) _ _ _ _) rfl rfl (fun W hb => by
            obtain ⟨e0, e1, e2, e3⟩ := (show FB W q false 0 0 (.slice none 0 0) from hb).cells
            have ef := fun j => hb.frozen j
            first | (left; go_simp; done) | (right; apply Exists.intro; go_simp; rfl) | (right; apply Exists.intro; go_simp)) rfl ?_
          intro K hK Ws HS
          refine hK _ _ ?_
          clear hK K
          refine fork_end (by kernel_rfl) ?_
          rintro Wz ⟨mz, rfl⟩
        all_goals
          have HZ := hid_mk (show FB (Ws.drewN mz) q true M0 C0 (.slice none 0 0) ∧ w6.grownBy (Ws.drewN mz) none ∧ w6.heap.size ≤ q from ⟨(show FB Ws q true M0 C0 (.slice none 0 0) from HS.out.2.2.1).kept (grown_drewN _ mz none) (by simp), grown_trans HS.out.1 (grown_drewN _ mz none), HS.out.2.2.2⟩)
          clear HS HB hbs hg1 hg2 HX0
          generalize Ws.drewN mz = w7 at *
          by_cases hC : C0 = 0
          · have HAD := hid_mk (addL_no (b := b) (n := es.length) (prev := prev) (l := l) hC)
            have hC' : (C0 != 0) = false := by rw [hC]; rfl
            clear hC
            obtain ⟨f0, f1, f2, f3⟩ := HZ.out.1.cells
            obtain ⟨v0, v1, v2⟩ := (HG6.out.2.2.1.kept HZ.out.2.1 (by simp)).cells
            go_wp2_with fail
            rw [← HV2.out]
            refine (from_any prev term _ l (b + es.length + 1) w w7 HE.out.2.1 (grown_trans HG6.out.2.2.2.1 HZ.out.2.1) (by omega) (by omega) (by unfold I64; omega) HGO.out.2).mono ?_
            rintro e w8 ⟨f, D, rfl, hsq, hg8⟩
            obtain ⟨gf, lb, hf, _⟩ := hsq.seq
            subst hf
            rw [HV2.out]
            clear f0 f1 f2 f3 v0 v1 v2
            have H8 := hid_mk (show SeqAt (w8.alloc (.cells #[.func (.func gf) #[] lb] 81)) (.func (.func gf) #[] lb) D (l.drop (plc prev l.length ((b + es.length + 1)))) w w7.heap.size w8.heap.size ∧ FB (w8.alloc (.cells #[.func (.func gf) #[] lb] 81)) q true M0 C0 (.slice none 0 0) ∧ FB (w8.alloc (.cells #[.func (.func gf) #[] lb] 81)) (w.heap.size + 1) false 0 0 (.slice none 0 0) ∧ w.grownBy (w8.alloc (.cells #[.func (.func gf) #[] lb] 81)) none ∧ (w8.alloc (.cells #[.func (.func gf) #[] lb] 81)).cell? ⟨w8.heap.size, 0, none⟩ = some (.func (.func gf) #[] lb) ∧ w8.heap.size < (w8.alloc (.cells #[.func (.func gf) #[] lb] 81)).heap.size ∧ w.heap.size + 3 ≤ q from by
              have ga := World.grownBy_alloc w8 (.cells #[.func (.func gf) #[] lb] 81) none
              have g68 := grown_trans (grown_trans HZ.out.2.1 hg8) ga
              have := HG6.out.2.2.2.2
              have := HZ.out.2.2
              refine ⟨hsq.later ga, (HZ.out.1.kept hg8 (by simp)).kept ga (by simp), HG6.out.2.1.kept g68 (by simp), grown_trans HG6.out.2.2.2.1 g68, ?_, by simp, by omega⟩
              have hb := heap_alloc_new w8 (.cells #[.func (.func gf) #[] lb] 81)
              exact (show Blk _ _ #[.func (.func gf) #[] lb] 81 from hb).cell 0)
            clear hsq hg8
            go_wp2_with fail
            generalize w8.alloc (.cells #[.func (.func gf) #[] lb] 81) = w9 at *
            refine (copies1_any w9 H8.out.1 H8.out.2.2.2.1.size (by have := H8.out.2.2.2.2.2.1; omega) H8.out.2.2.2.2.1 (by simp; omega)).mono ?_
            rintro e w10 ⟨av, ps, rfl, heo, hmap⟩
            obtain ⟨va, vc, hv⟩ := row_shape heo.row
            subst hv
            have H10 := hid_mk (show EO w w10 (.slice va ps.length vc) ps ∧ FB w10 q true M0 C0 (.slice none 0 0) ∧ FB w10 (w.heap.size + 1) false 0 0 (.slice none 0 0) ∧ ps.map (·.1) = l.drop (plc prev l.length ((b + es.length + 1))) ∧ w.heap.size + 3 ≤ q from
              ⟨heo.base H8.out.2.2.2.1, H8.out.2.1.kept heo.gr (by simp), H8.out.2.2.1.kept heo.gr (by simp), hmap, H8.out.2.2.2.2.2.2⟩)
            clear heo hmap H8
            have z3 := H10.out.2.1.frozen (i := 3)
            obtain ⟨f0, f1, f2, f3⟩ := H10.out.2.1.cells
            obtain ⟨r0, r1, r2, r3⟩ := H10.out.2.2.1.cells
            have HP := hid_mk (show EO w (w10.setCell ⟨q, 3, none⟩ (.slice va ps.length vc)) (.slice va ps.length vc) ps ∧ FB (w10.setCell ⟨q, 3, none⟩ (.slice va ps.length vc)) q true M0 C0 (.slice va ps.length vc) ∧ FB (w10.setCell ⟨q, 3, none⟩ (.slice va ps.length vc)) (w.heap.size + 1) false 0 0 (.slice none 0 0) from by
              have g3 := grown_setCell w10 q 3 (.slice va ps.length vc)
              have hq := H10.out.2.2.2.2
              exact ⟨H10.out.1.but H10.out.2.1 (by decide) (by decide) (by omega) g3, H10.out.2.1.set3 _, H10.out.2.2.1.kept g3 (by simp; omega)⟩)
            go_upto_region 13 with fail
            clear f0 f1 f2 f3 r0 r1 r2 r3 z3
            generalize w10.setCell ⟨q, 3, none⟩ (.slice va ps.length vc) = w11 at *
            obtain ⟨f0, f1, f2, f3⟩ := HP.out.2.1.cells
            obtain ⟨r0, r1, r2, r3⟩ := HP.out.2.2.cells
            have z0 := HP.out.2.2.frozen (i := 0)
            have z1 := HP.out.2.2.frozen (i := 1)
            have z2 := HP.out.2.2.frozen (i := 2)
            have z3 := HP.out.2.2.frozen (i := 3)
            go_wp2_with fail
            obtain ⟨p1, p2⟩ := HP.out.2.2.put true M0 C0 (.slice va ps.length vc)
            refine bodyPost_ret (ret_fit rfl _ _ _ _ _ _ _ rfl p1) rfl ?_
            rw [HT.out]
            exact ⟨_, ps, rfl, HP.out.1.but HP.out.2.2 (by decide) (by decide) (by omega) p2, by rw [H10.out.2.2.2.1]; exact (HAD.out).symm⟩
          · have HAD := hid_mk (addL_cut (b := b) (n := es.length) (prev := prev) (l := l) hC)
            have hC' : (C0 != 0) = true := by simpa using hC
            have HCI := hid_mk (clash_I64 HRS.out.1 HGO.out.2 HC0.out)
            obtain ⟨f0, f1, f2, f3⟩ := HZ.out.1.cells
            obtain ⟨v0, v1, v2⟩ := (HG6.out.2.2.1.kept HZ.out.2.1 (by simp)).cells
            go_wp2_with fail
            rw [← HV2.out]
            refine (from_any prev term _ l C0 w w7 HE.out.2.1 (grown_trans HG6.out.2.2.2.1 HZ.out.2.1) (by omega) (by omega) HCI.out HGO.out.2).mono ?_
            rintro e w8 ⟨f, D, rfl, hsq, hg8⟩
            obtain ⟨gf, lb, hf, _⟩ := hsq.seq
            subst hf
            rw [HV2.out]
            clear f0 f1 f2 f3 v0 v1 v2
            have H8 := hid_mk (show SeqAt (w8.alloc (.cells #[.func (.func gf) #[] lb] 81)) (.func (.func gf) #[] lb) D (l.drop (plc prev l.length (C0))) w w7.heap.size w8.heap.size ∧ FB (w8.alloc (.cells #[.func (.func gf) #[] lb] 81)) q true M0 C0 (.slice none 0 0) ∧ FB (w8.alloc (.cells #[.func (.func gf) #[] lb] 81)) (w.heap.size + 1) false 0 0 (.slice none 0 0) ∧ w.grownBy (w8.alloc (.cells #[.func (.func gf) #[] lb] 81)) none ∧ (w8.alloc (.cells #[.func (.func gf) #[] lb] 81)).cell? ⟨w8.heap.size, 0, none⟩ = some (.func (.func gf) #[] lb) ∧ w8.heap.size < (w8.alloc (.cells #[.func (.func gf) #[] lb] 81)).heap.size ∧ w.heap.size + 3 ≤ q from by
              have ga := World.grownBy_alloc w8 (.cells #[.func (.func gf) #[] lb] 81) none
              have g68 := grown_trans (grown_trans HZ.out.2.1 hg8) ga
              have := HG6.out.2.2.2.2
              have := HZ.out.2.2
              refine ⟨hsq.later ga, (HZ.out.1.kept hg8 (by simp)).kept ga (by simp), HG6.out.2.1.kept g68 (by simp), grown_trans HG6.out.2.2.2.1 g68, ?_, by simp, by omega⟩
              have hb := heap_alloc_new w8 (.cells #[.func (.func gf) #[] lb] 81)
              exact (show Blk _ _ #[.func (.func gf) #[] lb] 81 from hb).cell 0)
            clear hsq hg8
            go_wp2_with fail
            generalize w8.alloc (.cells #[.func (.func gf) #[] lb] 81) = w9 at *
            refine (copies1_any w9 H8.out.1 H8.out.2.2.2.1.size (by have := H8.out.2.2.2.2.2.1; omega) H8.out.2.2.2.2.1 (by simp; omega)).mono ?_
            rintro e w10 ⟨av, ps, rfl, heo, hmap⟩
            obtain ⟨va, vc, hv⟩ := row_shape heo.row
            subst hv
            have H10 := hid_mk (show EO w w10 (.slice va ps.length vc) ps ∧ FB w10 q true M0 C0 (.slice none 0 0) ∧ FB w10 (w.heap.size + 1) false 0 0 (.slice none 0 0) ∧ ps.map (·.1) = l.drop (plc prev l.length (C0)) ∧ w.heap.size + 3 ≤ q from
              ⟨heo.base H8.out.2.2.2.1, H8.out.2.1.kept heo.gr (by simp), H8.out.2.2.1.kept heo.gr (by simp), hmap, H8.out.2.2.2.2.2.2⟩)
            clear heo hmap H8
            have z3 := H10.out.2.1.frozen (i := 3)
            obtain ⟨f0, f1, f2, f3⟩ := H10.out.2.1.cells
            obtain ⟨r0, r1, r2, r3⟩ := H10.out.2.2.1.cells
            have HP := hid_mk (show EO w (w10.setCell ⟨q, 3, none⟩ (.slice va ps.length vc)) (.slice va ps.length vc) ps ∧ FB (w10.setCell ⟨q, 3, none⟩ (.slice va ps.length vc)) q true M0 C0 (.slice va ps.length vc) ∧ FB (w10.setCell ⟨q, 3, none⟩ (.slice va ps.length vc)) (w.heap.size + 1) false 0 0 (.slice none 0 0) from by
              have g3 := grown_setCell w10 q 3 (.slice va ps.length vc)
              have hq := H10.out.2.2.2.2
              exact ⟨H10.out.1.but H10.out.2.1 (by decide) (by decide) (by omega) g3, H10.out.2.1.set3 _, H10.out.2.2.1.kept g3 (by simp; omega)⟩)
            go_upto_region 13 with fail
            clear f0 f1 f2 f3 r0 r1 r2 r3 z3
            generalize w10.setCell ⟨q, 3, none⟩ (.slice va ps.length vc) = w11 at *
            obtain ⟨f0, f1, f2, f3⟩ := HP.out.2.1.cells
            obtain ⟨r0, r1, r2, r3⟩ := HP.out.2.2.cells
            have z0 := HP.out.2.2.frozen (i := 0)
            have z1 := HP.out.2.2.frozen (i := 1)
            have z2 := HP.out.2.2.frozen (i := 2)
            have z3 := HP.out.2.2.frozen (i := 3)
            go_wp2_with fail
            obtain ⟨p1, p2⟩ := HP.out.2.2.put true M0 C0 (.slice va ps.length vc)
            refine bodyPost_ret (ret_fit rfl _ _ _ _ _ _ _ rfl p1) rfl ?_
            rw [HT.out]
            exact ⟨_, ps, rfl, HP.out.1.but HP.out.2.2 (by decide) (by decide) (by omega) p2, by rw [H10.out.2.2.2.1]; exact (HAD.out).symm⟩
      · have HT := hid_mk (tryF_hint HRS.out.1 HRS.out.2 hh)
        obtain ⟨H0, hH0⟩ : ∃ H0, H0 = hintZ b t es prev term := ⟨_, rfl⟩
        rw [← hH0] at HT hh ⊢
        have hne : (H0 != 0) = true := by simpa using hh
        clear hH0
        obtain ⟨r0, r1, r2, r3⟩ := HG4.out.2.1.cells
        have z0 := HG4.out.2.1.frozen (i := 0)
        have z1 := HG4.out.2.1.frozen (i := 1)
        have z2 := HG4.out.2.1.frozen (i := 2)
        have z3 := HG4.out.2.1.frozen (i := 3)
        go_wp2_with fail
        obtain ⟨p1, p2⟩ := HG4.out.2.1.put false H0 0 (.slice none 0 0)
        refine bodyPost_ret (ret_fit rfl _ _ _ _ _ _ _ rfl p1) rfl ?_
        rw [HT.out]
        exact ⟨_, [], rfl, EO.nil (grown_new HG4.out.2.2.2.1 p2 (by omega)), rfl⟩
end Go.Proofs.Ytinpcpojadcegaa.W
