/- Batch: what a peer is sent. -/
import Derived.Test.YtinpcpojadcegaaErC
import Derived.Test.YtinpcpojadcegaaPrA
namespace Go.Proofs.Ytinpcpojadcegaa.W
open Go.RowKit Go.Maps
set_option linter.unusedVariables false
set_option linter.unusedSimpArgs false
set_option maxRecDepth 100000
attribute [local go_sem] Oper.semAt_some

/-- What is sent. -/
structure Bat where
  snap : Bool
  prev : Int
  term : Int
  ents : List Ent
def batF (b t : Int) (es : List Ent) (next : Int) : Bat :=
  if rightV b t es = true then
    if next ≤ b then ⟨true, 0, 0, []⟩ else ⟨false, min (next - 1) (b + es.length), termA b t es (min (next - 1) (b + es.length)), fromL b t es (min (next - 1) (b + es.length) + 1) 8⟩
  else ⟨false, 0, 0, []⟩
theorem batF_bad {b t : Int} {es : List Ent} {next : Int} (h : rightV b t es = false) : batF b t es next = ⟨false, 0, 0, []⟩ := by unfold batF; rw [if_neg (by rw [h]; simp)]
theorem batF_snap {b t : Int} {es : List Ent} {next : Int} (h : rightV b t es = true) (hn : next ≤ b) : batF b t es next = ⟨true, 0, 0, []⟩ := by unfold batF; rw [if_pos h, if_pos hn]
theorem batF_ok {b t : Int} {es : List Ent} {next P : Int} (h : rightV b t es = true) (hn : b < next) (hP : P = min (next - 1) (b + es.length)) : batF b t es next = ⟨false, P, termA b t es P, fromL b t es (P + 1) 8⟩ := by unfold batF; rw [if_pos h, if_neg (by omega), hP]
def batV (f : Bat) (lv : Value) : Value := .agg #[.bool f.snap, .int .i64 f.prev, .int .i64 f.term, lv]
/-- It in a block (28: the program's, 30: the document's). -/
def SB (W : World) (ty : TypeId) (g : Nat) (s : Bool) (p t : Int) (lv : Value) : Prop := W.heap[g]? = some (.cells #[.bool s, .int .i64 p, .int .i64 t, lv] ty (0, 0))
theorem SB.kept {W W' : World} {ty : TypeId} {g : Nat} {s : Bool} {p t : Int} {lv : Value} {row : Option Nat} (h : SB W ty g s p t lv) (hg : W.grownBy W' row) (hr : some g ≠ row) : SB W' ty g s p t lv := (hg.block g (Array.getElem?_eq_some_iff.1 h).1 hr).trans h
theorem SB.lt {W : World} {ty : TypeId} {g : Nat} {s : Bool} {p t : Int} {lv : Value} (h : SB W ty g s p t lv) : g < W.heap.size := (Array.getElem?_eq_some_iff.1 h).1
theorem SB.cells {W : World} {ty : TypeId} {g : Nat} {s : Bool} {p t : Int} {lv : Value} (h : SB W ty g s p t lv) : W.cell? ⟨g, 0, none⟩ = some (.bool s) ∧ W.cell? ⟨g, 1, none⟩ = some (.int .i64 p) ∧ W.cell? ⟨g, 2, none⟩ = some (.int .i64 t) ∧ W.cell? ⟨g, 3, none⟩ = some lv := by
  refine ⟨?_, ?_, ?_, ?_⟩ <;> (rw [cell_of_row _ _ _ _ _ _ h]; rfl)
theorem SB.frozen {W : World} {ty : TypeId} {g i : Nat} {s : Bool} {p t : Int} {lv : Value} (h : SB W ty g s p t lv) : W.frozen? ⟨g, i, none⟩ = false := by
  unfold World.frozen?
  rw [show W.heap[g]? = some (.cells #[.bool s, .int .i64 p, .int .i64 t, lv] ty (0, 0)) from h]
  simp
theorem SB.new (W : World) (ty : TypeId) (s : Bool) (p t : Int) (lv : Value) : SB (W.alloc (.cells #[.bool s, .int .i64 p, .int .i64 t, lv] ty)) ty W.heap.size s p t lv := heap_alloc_new W _
theorem SB.set0 {W : World} {ty : TypeId} {g : Nat} {s : Bool} {p t : Int} {lv : Value} (h : SB W ty g s p t lv) (s' : Bool) : SB (W.setCell ⟨g, 0, none⟩ (.bool s')) ty g s' p t lv := by
  unfold SB at *
  simp [World.setCell, Array.getElem?_modify, h]
theorem SB.put {W : World} {ty : TypeId} {g : Nat} {s0 : Bool} {p0 t0 : Int} {lv0 : Value} (h : SB W ty g s0 p0 t0 lv0) (s : Bool) (p t : Int) (lv : Value) :
    SB ((((W.setCell ⟨g, 0, none⟩ (.bool s)).setCell ⟨g, 1, none⟩ (.int .i64 p)).setCell ⟨g, 2, none⟩ (.int .i64 t)).setCell ⟨g, 3, none⟩ lv) ty g s p t lv ∧ W.grownBy ((((W.setCell ⟨g, 0, none⟩ (.bool s)).setCell ⟨g, 1, none⟩ (.int .i64 p)).setCell ⟨g, 2, none⟩ (.int .i64 t)).setCell ⟨g, 3, none⟩ lv) (some g) := by
  refine ⟨?_, grown_trans (grown_trans (grown_trans (grown_setCell W g 0 _) (grown_setCell _ g 1 _)) (grown_setCell _ g 2 _)) (grown_setCell _ g 3 _)⟩
  unfold SB at *
  simp [World.setCell, Array.getElem?_modify, h]
theorem load28 (w : World) (b : Nat) (c0 c1 c2 c3 : Value) (h0 : w.cell? ⟨b, 0, none⟩ = some c0) (h1 : w.cell? ⟨b, 1, none⟩ = some c1) (h2 : w.cell? ⟨b, 2, none⟩ = some c2) (h3 : w.cell? ⟨b, 3, none⟩ = some c3) : (loadVar 28 ⟨b, 0, none⟩).run Try.prog w = .ok (.agg #[c0, c1, c2, c3]) w := by
  simp [go_sem, h0, h1, h2, h3]
theorem load30 (w : World) (b : Nat) (c0 c1 c2 c3 : Value) (h0 : w.cell? ⟨b, 0, none⟩ = some c0) (h1 : w.cell? ⟨b, 1, none⟩ = some c1) (h2 : w.cell? ⟨b, 2, none⟩ = some c2) (h3 : w.cell? ⟨b, 3, none⟩ = some c3) : (loadVar 30 ⟨b, 0, none⟩).run Try.prog w = .ok (.agg #[c0, c1, c2, c3]) w := by
  simp [go_sem, h0, h1, h2, h3]
theorem ret_bat28 {fn : Func} {p : Tmp} (h : fn.results = #[.cell p 28]) (tmps : Array Value) (w : World) (g : Nat) (s : Bool) (m c : Int) (av : Value) (hp : tmps.getD p undef = .pointer (some ⟨g, 0, none⟩)) (hb : SB w 28 g s m c av) : (results fn tmps).run Try.prog w = .ok (.agg #[.bool s, .int .i64 m, .int .i64 c, av]) w := by
  have ha : (asAddr (.pointer (some ⟨g, 0, none⟩))).run Try.prog w = .ok ⟨g, 0, none⟩ w := by simp [asAddr]
  obtain ⟨c0, c1, c2, c3⟩ := hb.cells
  rw [results_cell1 h, hp, ha]
  simp only [Result.andThen]
  rw [load28 w g _ _ _ _ c0 c1 c2 c3]
theorem ret_bat30 {fn : Func} {p : Tmp} (h : fn.results = #[.cell p 30]) (tmps : Array Value) (w : World) (g : Nat) (s : Bool) (m c : Int) (av : Value) (hp : tmps.getD p undef = .pointer (some ⟨g, 0, none⟩)) (hb : SB w 30 g s m c av) : (results fn tmps).run Try.prog w = .ok (.agg #[.bool s, .int .i64 m, .int .i64 c, av]) w := by
  have ha : (asAddr (.pointer (some ⟨g, 0, none⟩))).run Try.prog w = .ok ⟨g, 0, none⟩ w := by simp [asAddr]
  obtain ⟨c0, c1, c2, c3⟩ := hb.cells
  rw [results_cell1 h, hp, ha]
  simp only [Result.andThen]
  rw [load30 w g _ _ _ _ c0 c1 c2 c3]
set_option maxHeartbeats 8000000 in
theorem batch_any (b t : Int) (lv : Value) (es : List Ent) (next : Int) (w : World) (h : EntsR w lv es) (hlen : es.length ≤ 10000000000000) (hb : I64 b) (hx : I64 next) :
    Calls Try.prog 9 #[viewV b t lv, .int .i64 next] w fun e w' => ∃ lv' ps, e = .returned (batV (batF b t es next) lv') ∧ EO w w' lv' ps ∧ ps.map (·.1) = (batF b t es next).ents := by
  obtain ⟨a, c, rfl⟩ := h.len
  have HE := hid_mk (And.intro h hb)
  clear h hb
  unfold I64 at hx
  have hV : viewV b t (.slice a es.length c) = .agg #[.int .i64 b, .int .i64 t, .slice a es.length c] := rfl
  have HV := hid_mk hV
  rw [hV]
  clear hV
  have HA := hid_mk (show VB ((w.alloc (.cells #[.int .i64 b, .int .i64 t, .slice a es.length c] 25)).alloc (.cells #[.bool false, .int .i64 0, .int .i64 0, .slice none 0 0] 28)) w.heap.size b t (.slice a es.length c) ∧ SB ((w.alloc (.cells #[.int .i64 b, .int .i64 t, .slice a es.length c] 25)).alloc (.cells #[.bool false, .int .i64 0, .int .i64 0, .slice none 0 0] 28)) 28 (w.heap.size + 1) false 0 0 (.slice none 0 0) ∧ w.grownBy ((w.alloc (.cells #[.int .i64 b, .int .i64 t, .slice a es.length c] 25)).alloc (.cells #[.bool false, .int .i64 0, .int .i64 0, .slice none 0 0] 28)) none ∧ ((w.alloc (.cells #[.int .i64 b, .int .i64 t, .slice a es.length c] 25)).alloc (.cells #[.bool false, .int .i64 0, .int .i64 0, .slice none 0 0] 28)).heap.size = w.heap.size + 2 from by
    refine ⟨(VB.new w b t (.slice a es.length c)).kept (World.grownBy_alloc _ _ none) (by simp), ?_, grown_trans (World.grownBy_alloc _ _ none) (World.grownBy_alloc _ _ none), by simp⟩
    have := SB.new (w.alloc (.cells #[.int .i64 b, .int .i64 t, .slice a es.length c] 25)) 28 false 0 0 (.slice none 0 0)
    simpa using this)
  go_enter Try.func9, Try.ntmps9
  go_upto_region 1 with fail
  generalize (w.alloc (.cells #[.int .i64 b, .int .i64 t, .slice a es.length c] 25)).alloc (.cells #[.bool false, .int .i64 0, .int .i64 0, .slice none 0 0] 28) = w1 at *
  obtain ⟨PV, hPV'⟩ : ∃ PV, PV = max next 0 - 1 := ⟨_, rfl⟩
  go_cut [5] (fun s wx => s = .int .i64 PV ∧ wx = w1)
  case first =>
    by_cases hn0 : next < 0
    · go_wp2_with fail
      go_meet
      case rel => exact ⟨by rw [hPV']; congr 1; omega, rfl⟩
    · go_wp2_with fail
      go_meet
      case rel => exact ⟨by rw [hPV']; congr 1; omega, rfl⟩
  case rest =>
    obtain ⟨rfl, hwx⟩ := hcut
    rw [hwx]
    clear hwx
    have HPV := hid_mk hPV'
    clear hPV'
    have H2 := hid_mk (show VB (w1.alloc (.cells #[.bool false, .int .i64 0, .int .i64 0, .slice none 0 0] 28)) w.heap.size b t (.slice a es.length c) ∧ SB (w1.alloc (.cells #[.bool false, .int .i64 0, .int .i64 0, .slice none 0 0] 28)) 28 (w.heap.size + 1) false 0 0 (.slice none 0 0) ∧ SB (w1.alloc (.cells #[.bool false, .int .i64 0, .int .i64 0, .slice none 0 0] 28)) 28 w1.heap.size false 0 0 (.slice none 0 0) ∧ w.grownBy (w1.alloc (.cells #[.bool false, .int .i64 0, .int .i64 0, .slice none 0 0] 28)) none ∧ w.heap.size + 2 ≤ w1.heap.size from by
      obtain ⟨x1, x2, x3, x4⟩ := HA.out
      have g := World.grownBy_alloc w1 (.cells #[.bool false, .int .i64 0, .int .i64 0, .slice none 0 0] 28) none
      exact ⟨x1.kept g (by simp), x2.kept g (by simp), SB.new _ _ _ _ _ _, grown_trans x3 g, by omega⟩)
    clear HA
    go_upto_region 3 with fail
    generalize w1.alloc (.cells #[.bool false, .int .i64 0, .int .i64 0, .slice none 0 0] 28) = w2 at *
    obtain ⟨ps, hps⟩ : ∃ ps, ps = w1.heap.size := ⟨_, rfl⟩
    rw [← hps] at H2 ⊢
    clear hps
    obtain ⟨v0, v1, v2⟩ := H2.out.1.cells
    go_wp2_with fail
    rw [← HV.out]
    refine (termOf_any b t _ es PV w2 (HE.out.1.kept H2.out.2.2.2.1) hlen HE.out.2).mono ?_
    rintro e w3 ⟨rfl, hg⟩
    rw [HV.out]
    have H3 := hid_mk (show VB w3 w.heap.size b t (.slice a es.length c) ∧ SB w3 28 (w.heap.size + 1) false 0 0 (.slice none 0 0) ∧ SB w3 28 ps false 0 0 (.slice none 0 0) ∧ w.grownBy w3 none ∧ w.heap.size + 2 ≤ ps from by
      obtain ⟨x1, x2, x3, x4, x5⟩ := H2.out
      exact ⟨x1.kept hg (by simp), x2.kept hg (by simp), x3.kept hg (by simp), grown_trans x4 hg, x5⟩)
    clear hg v0 v1 v2 H2
    obtain ⟨r0, r1, r2, r3⟩ := H3.out.2.1.cells
    have z0 := H3.out.2.1.frozen (i := 0)
    have z1 := H3.out.2.1.frozen (i := 1)
    have z2 := H3.out.2.1.frozen (i := 2)
    have z3 := H3.out.2.1.frozen (i := 3)
    obtain ⟨s0, s1, s2, s3⟩ := H3.out.2.2.1.cells
    cases hr : rightV b t es with
    | false =>
      have HT := hid_mk (batF_bad (next := next) hr)
      rw [termR_bad hr]
      simp only
      go_wp2_with fail
      obtain ⟨p1, p2⟩ := H3.out.2.1.put false 0 0 (.slice none 0 0)
      refine bodyPost_ret (ret_bat28 rfl _ _ _ _ _ _ _ rfl p1) rfl ?_
      rw [HT.out]
      exact ⟨_, [], rfl, EO.nil (grown_new H3.out.2.2.2.1 p2 (by omega)), rfl⟩
    | true =>
      obtain ⟨hb0, hb1, _, _, hn4, hgo⟩ := rightV_spec hr
      by_cases hlow : PV < b
      · have HT := hid_mk (batF_snap (next := next) hr (by have := HPV.out; omega))
        rw [termR_low hr hlow]
        simp only
        have y0 := H3.out.2.2.1.frozen (i := 0)
        go_upto_region 11 with fail
        have H4 := hid_mk (show SB (w3.setCell ⟨ps, 0, none⟩ (.bool true)) 28 (w.heap.size + 1) false 0 0 (.slice none 0 0) ∧ SB (w3.setCell ⟨ps, 0, none⟩ (.bool true)) 28 ps true 0 0 (.slice none 0 0) ∧ w.grownBy (w3.setCell ⟨ps, 0, none⟩ (.bool true)) none from by
          obtain ⟨x1, x2, x3, x4, x5⟩ := H3.out
          have g := grown_setCell w3 ps 0 (.bool true)
          exact ⟨x2.kept g (by simp; omega), x3.set0 true, grown_new x4 g (by omega)⟩)
        clear r0 r1 r2 r3 z0 z1 z2 z3 s0 s1 s2 s3 y0 H3
        generalize w3.setCell ⟨ps, 0, none⟩ (.bool true) = w4 at *
        obtain ⟨s0, s1, s2, s3⟩ := H4.out.2.1.cells
        obtain ⟨r0, r1, r2, r3⟩ := H4.out.1.cells
        have z0 := H4.out.1.frozen (i := 0)
        have z1 := H4.out.1.frozen (i := 1)
        have z2 := H4.out.1.frozen (i := 2)
        have z3 := H4.out.1.frozen (i := 3)
        go_wp2_with fail
        obtain ⟨p1, p2⟩ := H4.out.1.put true 0 0 (.slice none 0 0)
        refine bodyPost_ret (ret_bat28 rfl _ _ _ _ _ _ _ rfl p1) rfl ?_
        rw [HT.out]
        exact ⟨_, [], rfl, EO.nil (grown_new H4.out.2.2 p2 (by omega)), rfl⟩
      · have hPV0 : b < next := by have := HPV.out; omega
        by_cases hhigh : b + es.length < PV
        · obtain ⟨PP, hPP⟩ : ∃ PP : Int, PP = b + es.length := ⟨_, rfl⟩
          obtain ⟨TT, hTT⟩ : ∃ TT, TT = endT t es := ⟨_, rfl⟩
          have HT := hid_mk (batF_ok (P := PP) hr hPV0 (by have := HPV.out; omega))
          rw [show termA b t es PP = TT from by rw [hPP, hTT]; exact termA_last] at HT
          have HPI := hid_mk (show I64 (PP + 1) from by unfold I64; omega)
          have HL := hid_mk (show (if rightV b t es = true then endI b es else 0) = PP ∧ (if rightV b t es = true then endT t es else 0) = TT from by rw [if_pos hr, if_pos hr, endI_of hgo, hPP, hTT]; exact ⟨rfl, rfl⟩)
          rw [termR_high hr hhigh]
          simp only
          have hPP1 : -9223372036854775808 ≤ PP ∧ PP < 9223372036854775807 := by omega
          clear hPP hTT hgo hr
          obtain ⟨v0, v1, v2⟩ := H3.out.1.cells
          clear r0 r1 r2 r3 z0 z1 z2 z3 s0 s1 s2 s3
          go_wp2_with fail
          rw [← HV.out]
          refine (last_any b t _ es w3 (HE.out.1.kept H3.out.2.2.2.1) hlen HE.out.2).mono ?_
          rintro e w4 ⟨rfl, hg⟩
          rw [HV.out, HL.out.1, HL.out.2]
          have H4 := hid_mk (show VB w4 w.heap.size b t (.slice a es.length c) ∧ SB w4 28 (w.heap.size + 1) false 0 0 (.slice none 0 0) ∧ SB w4 28 ps false 0 0 (.slice none 0 0) ∧ w.grownBy w4 none ∧ w.heap.size + 2 ≤ ps from by
            obtain ⟨x1, x2, x3, x4, x5⟩ := H3.out
            exact ⟨x1.kept hg (by simp), x2.kept hg (by simp), x3.kept hg (by simp), grown_trans x4 hg, x5⟩)
          clear hg v0 v1 v2 H3 HL
          obtain ⟨v0, v1, v2⟩ := H4.out.1.cells
          go_wp2_with fail
          rw [← HV.out]
          refine (From_any b t _ es (PP + 1) 8 w4 (HE.out.1.kept H4.out.2.2.2.1) hlen HE.out.2 HPI.out (by unfold I64; omega)).mono ?_
          rintro e wA ⟨fv, qs, rfl, heo, hmap⟩
          rw [HV.out]
          obtain ⟨fa, fc, hfv⟩ := row_shape heo.row
          subst hfv
          obtain ⟨fn, hfn⟩ : ∃ fn, fn = qs.length := ⟨_, rfl⟩
          rw [← hfn] at heo ⊢
          have HA := hid_mk (show EO w wA (.slice fa fn fc) qs ∧ SB wA 28 (w.heap.size + 1) false 0 0 (.slice none 0 0) ∧ SB wA 28 ps false 0 0 (.slice none 0 0) ∧ w.heap.size + 2 ≤ ps from by
            obtain ⟨x1, x2, x3, x4, x5⟩ := H4.out
            exact ⟨heo.base x4, x2.kept heo.gr (by simp), x3.kept heo.gr (by simp), x5⟩)
          have HM := hid_mk hmap
          clear heo hmap hfn v0 v1 v2 H4
          obtain ⟨s0, s1, s2, s3⟩ := HA.out.2.2.1.cells
          have y0 := HA.out.2.2.1.frozen (i := 0)
          have y1 := HA.out.2.2.1.frozen (i := 1)
          have y2 := HA.out.2.2.1.frozen (i := 2)
          have y3 := HA.out.2.2.1.frozen (i := 3)
          go_upto_region 11 with fail
          have HB := hid_mk (show EO w ((((wA.setCell ⟨ps, 0, none⟩ (.bool false)).setCell ⟨ps, 1, none⟩ (.int .i64 PP)).setCell ⟨ps, 2, none⟩ (.int .i64 TT)).setCell ⟨ps, 3, none⟩ (.slice fa fn fc)) (.slice fa fn fc) qs ∧ SB ((((wA.setCell ⟨ps, 0, none⟩ (.bool false)).setCell ⟨ps, 1, none⟩ (.int .i64 PP)).setCell ⟨ps, 2, none⟩ (.int .i64 TT)).setCell ⟨ps, 3, none⟩ (.slice fa fn fc)) 28 (w.heap.size + 1) false 0 0 (.slice none 0 0) ∧ SB ((((wA.setCell ⟨ps, 0, none⟩ (.bool false)).setCell ⟨ps, 1, none⟩ (.int .i64 PP)).setCell ⟨ps, 2, none⟩ (.int .i64 TT)).setCell ⟨ps, 3, none⟩ (.slice fa fn fc)) 28 ps false PP TT (.slice fa fn fc) from by
            obtain ⟨x1, x2, x3, x4⟩ := HA.out
            obtain ⟨p1, p2⟩ := x3.put false PP TT (.slice fa fn fc)
            exact ⟨x1.but x3 (by decide) (by decide) (by omega) p2, x2.kept p2 (by simp; omega), p1⟩)
          clear s0 s1 s2 s3 y0 y1 y2 y3 HA
          generalize (((wA.setCell ⟨ps, 0, none⟩ (.bool false)).setCell ⟨ps, 1, none⟩ (.int .i64 PP)).setCell ⟨ps, 2, none⟩ (.int .i64 TT)).setCell ⟨ps, 3, none⟩ (.slice fa fn fc) = wB at *
          obtain ⟨s0, s1, s2, s3⟩ := HB.out.2.2.cells
          obtain ⟨r0, r1, r2, r3⟩ := HB.out.2.1.cells
          have z0 := HB.out.2.1.frozen (i := 0)
          have z1 := HB.out.2.1.frozen (i := 1)
          have z2 := HB.out.2.1.frozen (i := 2)
          have z3 := HB.out.2.1.frozen (i := 3)
          go_wp2_with fail
          obtain ⟨p1, p2⟩ := HB.out.2.1.put false PP TT (.slice fa fn fc)
          refine bodyPost_ret (ret_bat28 rfl _ _ _ _ _ _ _ rfl p1) rfl ?_
          rw [HT.out]
          exact ⟨_, qs, rfl, HB.out.1.but HB.out.2.1 (by decide) (by decide) (by omega) p2, HM.out⟩
        · obtain ⟨PP, hPP⟩ : ∃ PP : Int, PP = PV := ⟨_, rfl⟩
          rw [← hPP] at hlow hhigh HPV ⊢
          have HT := hid_mk (batF_ok (P := PP) hr hPV0 (by have := HPV.out; omega))
          have HPI := hid_mk (show I64 (PP + 1) from by unfold I64; omega)
          rw [termR_in hr (by omega) (by omega)]
          simp only
          obtain ⟨TT, hTT⟩ : ∃ TT, TT = termA b t es PP := ⟨_, rfl⟩
          rw [← hTT] at HT ⊢
          have hPP1 : -9223372036854775808 ≤ PP ∧ PP < 9223372036854775807 := by omega
          clear hPP hTT hgo hr
          obtain ⟨v0, v1, v2⟩ := H3.out.1.cells
          clear r0 r1 r2 r3 z0 z1 z2 z3 s0 s1 s2 s3
          go_wp2_with fail
          rw [← HV.out]
          refine (From_any b t _ es (PP + 1) 8 w3 (HE.out.1.kept H3.out.2.2.2.1) hlen HE.out.2 HPI.out (by unfold I64; omega)).mono ?_
          rintro e wA ⟨fv, qs, rfl, heo, hmap⟩
          rw [HV.out]
          obtain ⟨fa, fc, hfv⟩ := row_shape heo.row
          subst hfv
          obtain ⟨fn, hfn⟩ : ∃ fn, fn = qs.length := ⟨_, rfl⟩
          rw [← hfn] at heo ⊢
          have HA := hid_mk (show EO w wA (.slice fa fn fc) qs ∧ SB wA 28 (w.heap.size + 1) false 0 0 (.slice none 0 0) ∧ SB wA 28 ps false 0 0 (.slice none 0 0) ∧ w.heap.size + 2 ≤ ps from by
            obtain ⟨x1, x2, x3, x4, x5⟩ := H3.out
            exact ⟨heo.base x4, x2.kept heo.gr (by simp), x3.kept heo.gr (by simp), x5⟩)
          have HM := hid_mk hmap
          clear heo hmap hfn v0 v1 v2 H3
          obtain ⟨s0, s1, s2, s3⟩ := HA.out.2.2.1.cells
          have y0 := HA.out.2.2.1.frozen (i := 0)
          have y1 := HA.out.2.2.1.frozen (i := 1)
          have y2 := HA.out.2.2.1.frozen (i := 2)
          have y3 := HA.out.2.2.1.frozen (i := 3)
          go_upto_region 11 with fail
          have HB := hid_mk (show EO w ((((wA.setCell ⟨ps, 0, none⟩ (.bool false)).setCell ⟨ps, 1, none⟩ (.int .i64 PP)).setCell ⟨ps, 2, none⟩ (.int .i64 TT)).setCell ⟨ps, 3, none⟩ (.slice fa fn fc)) (.slice fa fn fc) qs ∧ SB ((((wA.setCell ⟨ps, 0, none⟩ (.bool false)).setCell ⟨ps, 1, none⟩ (.int .i64 PP)).setCell ⟨ps, 2, none⟩ (.int .i64 TT)).setCell ⟨ps, 3, none⟩ (.slice fa fn fc)) 28 (w.heap.size + 1) false 0 0 (.slice none 0 0) ∧ SB ((((wA.setCell ⟨ps, 0, none⟩ (.bool false)).setCell ⟨ps, 1, none⟩ (.int .i64 PP)).setCell ⟨ps, 2, none⟩ (.int .i64 TT)).setCell ⟨ps, 3, none⟩ (.slice fa fn fc)) 28 ps false PP TT (.slice fa fn fc) from by
            obtain ⟨x1, x2, x3, x4⟩ := HA.out
            obtain ⟨p1, p2⟩ := x3.put false PP TT (.slice fa fn fc)
            exact ⟨x1.but x3 (by decide) (by decide) (by omega) p2, x2.kept p2 (by simp; omega), p1⟩)
          clear s0 s1 s2 s3 y0 y1 y2 y3 HA
          generalize (((wA.setCell ⟨ps, 0, none⟩ (.bool false)).setCell ⟨ps, 1, none⟩ (.int .i64 PP)).setCell ⟨ps, 2, none⟩ (.int .i64 TT)).setCell ⟨ps, 3, none⟩ (.slice fa fn fc) = wB at *
          obtain ⟨s0, s1, s2, s3⟩ := HB.out.2.2.cells
          obtain ⟨r0, r1, r2, r3⟩ := HB.out.2.1.cells
          have z0 := HB.out.2.1.frozen (i := 0)
          have z1 := HB.out.2.1.frozen (i := 1)
          have z2 := HB.out.2.1.frozen (i := 2)
          have z3 := HB.out.2.1.frozen (i := 3)
          go_wp2_with fail
          obtain ⟨p1, p2⟩ := HB.out.2.1.put false PP TT (.slice fa fn fc)
          refine bodyPost_ret (ret_bat28 rfl _ _ _ _ _ _ _ rfl p1) rfl ?_
          rw [HT.out]
          exact ⟨_, qs, rfl, HB.out.1.but HB.out.2.1 (by decide) (by decide) (by omega) p2, HM.out⟩
end Go.Proofs.Ytinpcpojadcegaa.W
