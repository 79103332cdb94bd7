/- The law's Own and View. -/
import Derived.Test.YtcijjepleedecaaEnP
namespace Go.Proofs.Ytcijjepleedecaa.W
open Go.RowKit Go.Maps
set_option linter.unusedVariables false
set_option linter.unusedSimpArgs false
set_option maxRecDepth 100000
attribute [local go_sem] Oper.semAt_some

set_option maxHeartbeats 4000000 in
theorem ownL_any (lv : Value) (es : List Ent) (w : World) (h : EntsR w lv es) (hlen : es.length * 48 ≤ 140737488355328) : Calls Try.prog 34 #[lv] w fun e w' => ∃ v ps, e = .returned v ∧ EO w w' v ps ∧ ps.map (·.1) = es := by
  obtain ⟨a, c, rfl⟩ := h.len
  have HE := hid_mk h
  clear h
  refine (callsIn_wide (n := 11)).1 ?_
  refine callsIn_of_wp Try.func34 rfl trivial ?_ rfl
  simp only [Try.ntmps34, List.size_toArray, List.length_cons, List.length_nil, Nat.reduceAdd, Nat.reduceSub, Array.replicate_succ, Array.replicate_zero, List.push_toArray, List.append_toArray, List.nil_append, List.cons_append]
  gi_wp2_with fail
  gi_loopw [3, 4] (fun ov iv wr => ∃ (k : Nat) (va : Option Addr) (vc : Nat) (ps : List (Ent × Value)), k ≤ es.length ∧ ov = .slice va ps.length vc ∧ iv = .int .i64 k ∧ Hid (EO w wr (.slice va ps.length vc) ps ∧ ps.map (·.1) = es.take k)) (fun _ iv _ => es.length - (intOf iv).toNat)
  case atStart => exact ⟨0, none, 0, [], Nat.zero_le _, rfl, rfl, hid_mk ⟨EO.nil (grown_refl _ _), by simp⟩⟩
  case round =>
    obtain ⟨k, va, vc, ps, hk, rfl, rfl, H⟩ := hrel
    rename World => wr
    by_cases hlt : k < es.length
    · have hlt' : (k : Int) < es.length := by omega
      obtain ⟨x, hx⟩ : ∃ x, es[k]? = some x := ⟨es[k], List.getElem?_eq_getElem hlt⟩
      obtain ⟨eb, off, hae, hcap, hcs⟩ := (HE.out.kept H.out.1.gr).at (by omega)
      obtain ⟨dv, q0, q1, q2, q3, hxb, hxl⟩ := hcs k x hx
      obtain ⟨da, dc, hdv⟩ := hxb.len
      subst hae
      subst hdv
      have HX := hid_mk (And.intro hx (And.intro hxb hxl))
      have hpl : ps.length = k := by have := congrArg List.length H.out.2; simp at this; omega
      have HPL := hid_mk hpl
      clear hx hxb hxl hcs hpl
      have hV : entV x (.slice da x.data.length dc) = .agg #[.int .i64 x.term, .int .i64 x.index, .int .i64 x.kind, .slice da x.data.length dc] := rfl
      have HV := hid_mk hV
      clear hV
      gi_wp2_with fail
      rw [← HV.out]
      refine ⟨trivial, (callsIn_wide.2 (ownE_any x _ wr HX.out.2.1 HX.out.2.2)).mono ?_⟩
      rintro e w1 ⟨dv', rfl, ho, hg⟩
      rw [HV.out]
      obtain ⟨da', dc', rfl⟩ := ho.len
      have hm : w.heap.size ≤ wr.heap.size := H.out.1.gr.size
      have H1 := hid_mk (show EO w w1 (.slice va ps.length vc) ps ∧ Own w1 w.heap.size (.slice da' x.data.length dc') x.data from ⟨H.out.1.kept hg, ho.base hm⟩)
      have HM := hid_mk (show ps.map (·.1) ++ [x] = es.take (k + 1) from by rw [H.out.2, List.take_add_one, HX.out.1]; rfl)
      clear ho hg hm q0 q1 q2 q3 H
      unfold entV
      gi_wp2_with (gi_at_builtin; refine wpListIn_append_ent H1.out.1 x (.slice da' x.data.length dc') H1.out.2 HX.out.2.2 (by have := HPL.out; omega) rfl (.tmp 11) (.tmp 17) rfl rfl rfl ?_; intro a4 c4 Y4 heo4 hg4; have H4 := hid_mk heo4; clear heo4 hg4)
      go_roundw
      case rel => exact ⟨k + 1, a4, c4, ps ++ [(x, .slice da' x.data.length dc')], by omega, by simp, by first | rfl | (congr 1; done) | (congr 1; omega), hid_mk ⟨by simpa using H4.out, by rw [List.map_append, ← HM.out]; rfl⟩⟩
      case measure => simp [intOf]; omega
    · have hlt' : ¬ (k : Int) < es.length := by omega
      have hke : k = es.length := by omega
      have HF := hid_mk (show EO w wr (.slice va ps.length vc) ps ∧ ps.map (·.1) = es from ⟨H.out.1, by rw [H.out.2, hke, List.take_length]⟩)
      clear hke H
      gi_wp2_with fail
      refine bodyPost_ret (results_tmp rfl _ _ _) rfl ?_
      exact ⟨_, rfl, ps, HF.out⟩
/-- The document's view in a block. -/
def RB (W : World) (g : Nat) (b t : Int) (lv : Value) : Prop := W.heap[g]? = some (.cells #[.int .i64 b, .int .i64 t, lv] 30 (0, 0))
theorem RB.kept {W W' : World} {g : Nat} {b t : Int} {lv : Value} {row : Option Nat} (h : RB W g b t lv) (hg : W.grownBy W' row) (hr : some g ≠ row) : RB W' g b t lv := (hg.block g (Array.getElem?_eq_some_iff.1 h).1 hr).trans h
theorem RB.cells {W : World} {g : Nat} {b t : Int} {lv : Value} (h : RB W g b t lv) : W.cell? ⟨g, 0, none⟩ = some (.int .i64 b) ∧ W.cell? ⟨g, 1, none⟩ = some (.int .i64 t) ∧ W.cell? ⟨g, 2, none⟩ = some lv := by
  have h' : W.heap[g]? = _ := h
  exact ⟨by simp [World.cell?, h'], by simp [World.cell?, h'], by simp [World.cell?, h']⟩
theorem RB.new (W : World) (b t : Int) (lv : Value) : RB (W.alloc (.cells #[.int .i64 b, .int .i64 t, lv] 30)) W.heap.size b t lv := heap_alloc_new W _
theorem RB.lt {W : World} {g : Nat} {b t : Int} {lv : Value} (h : RB W g b t lv) : g < W.heap.size := (Array.getElem?_eq_some_iff.1 h).1

set_option maxHeartbeats 4000000 in
theorem view_any (b t : Int) (lv : Value) (es : List Ent) (w : World) (h : EntsR w lv es) (hlen : es.length * 48 ≤ 140737488355328) : Calls Try.prog 18 #[viewV b t lv] w fun e w' => ∃ lv' ps, e = .returned (viewV b t lv') ∧ EO w w' lv' ps ∧ ps.map (·.1) = es := by
  obtain ⟨a, c, rfl⟩ := h.len
  have HE := hid_mk h
  clear h
  unfold viewV
  have HA := hid_mk (show RB ((w.alloc (.cells #[.int .i64 b, .int .i64 t, .slice a es.length c] 30)).alloc (.cells #[.int .i64 0, .int .i64 0, .slice none 0 0] 26)) w.heap.size b t (.slice a es.length c) ∧ VB ((w.alloc (.cells #[.int .i64 b, .int .i64 t, .slice a es.length c] 30)).alloc (.cells #[.int .i64 0, .int .i64 0, .slice none 0 0] 26)) (w.heap.size + 1) 0 0 (.slice none 0 0) ∧ w.grownBy ((w.alloc (.cells #[.int .i64 b, .int .i64 t, .slice a es.length c] 30)).alloc (.cells #[.int .i64 0, .int .i64 0, .slice none 0 0] 26)) none from by
    have h1 := RB.new w b t (.slice a es.length c)
    have h2 := VB.new (w.alloc (.cells #[.int .i64 b, .int .i64 t, .slice a es.length c] 30)) 0 0 (.slice none 0 0)
    rw [World.size_alloc] at h2
    exact ⟨h1.kept (World.grownBy_alloc _ _ none) (by simp), h2, grown_trans (World.grownBy_alloc _ _ none) (World.grownBy_alloc _ _ none)⟩)
  go_enter Try.func18, Try.ntmps18
  go_upto_region 1 with fail
  generalize (w.alloc (.cells #[.int .i64 b, .int .i64 t, .slice a es.length c] 30)).alloc (.cells #[.int .i64 0, .int .i64 0, .slice none 0 0] 26) = w1 at *
  obtain ⟨r, hr⟩ : ∃ r, r = w.heap.size + 1 := ⟨_, rfl⟩
  have HR := hid_mk (show w.heap.size < r by omega)
  rw [← hr] at HA ⊢
  clear hr
  have HCL : ∀ W, w1.grownBy W (some r) → W.cell? ⟨w.heap.size, 0, none⟩ = some (.int .i64 b) ∧ W.cell? ⟨w.heap.size, 1, none⟩ = some (.int .i64 t) ∧ W.cell? ⟨w.heap.size, 2, none⟩ = some (.slice a es.length c) := fun W hW => (HA.out.1.kept hW (by have := HR.out; simp; omega)).cells
  refine wp_region_mix [(0, true), (1, true), (2, true), (3, true), (4, true), (5, true), (6, false), (7, true), (8, false)] (at0 w1 (fun W => w1.grownBy W (some r))) (by kernel_rfl) (by kernel_rfl) rfl (by kernel_rfl) (shut_at0 (fun m => grown_drewN _ m _)) ⟨1, rfl⟩ ?_
  repeat (refine mix_rd1 rfl rfl (fun K hK => ?_); apply Exists.intro; refine ⟨fun W hW => ?_, ?_⟩; (obtain ⟨d0, d1, d2⟩ := HCL W hW; go_simp; rfl); (go_simp; refine hK _ _ ?_; clear hK K))
  refine mix_call rfl rfl 34 #[.slice a es.length c] (fun W => by go_simp) ?_
  rintro W ⟨mA, rfl⟩
  refine (ownL_any _ es (w1.drewN mA) (HE.out.kept (grown_trans HA.out.2.2 (grown_drewN _ mA none))) hlen).mono ?_
  rintro e wA ⟨v, ps, rfl, heo, hmap⟩
  obtain ⟨va, vc, hv⟩ := row_shape heo.row
  subst hv
  have HD := hid_mk (show EO w wA (.slice va ps.length vc) ps ∧ w1.grownBy wA none ∧ ps.map (·.1) = es from ⟨heo.base (grown_trans HA.out.2.2 (grown_drewN _ mA none)), grown_trans (grown_drewN _ mA none) heo.gr, hmap⟩)
  clear heo hmap
  refine ⟨_, rfl, at0 wA (fun W => w1.grownBy W (some r)), ⟨0, rfl⟩, shut_at0 (fun m => grown_trans (grown_any HD.out.2.1 _) (grown_drewN _ m _)), fun _ h => h, ?_⟩
  refine mix_rd1 rfl rfl (fun K hK => ?_); apply Exists.intro; refine ⟨fun W hW => ?_, ?_⟩; (go_simp; rfl); (go_simp; refine hK _ _ ?_; clear hK K)
  refine mix_skip rfl rfl ?_
  rintro W ⟨mE, rfl⟩
  have hvE := HA.out.2.1.kept (grown_trans HD.out.2.1 (grown_drewN wA mE none)) (by simp)
  obtain ⟨e0, e1, e2⟩ := hvE.cells
  have z0 := hvE.frozen (i := 0)
  have z1 := hvE.frozen (i := 1)
  have z2 := hvE.frozen (i := 2)
  obtain ⟨pu1, pu2⟩ := hvE.put b t (.slice va ps.length vc)
  have HF := hid_mk (show VB ((((wA.drewN mE).setCell ⟨r, 0, none⟩ (.int .i64 b)).setCell ⟨r, 1, none⟩ (.int .i64 t)).setCell ⟨r, 2, none⟩ (.slice va ps.length vc)) r b t (.slice va ps.length vc) ∧ w1.grownBy ((((wA.drewN mE).setCell ⟨r, 0, none⟩ (.int .i64 b)).setCell ⟨r, 1, none⟩ (.int .i64 t)).setCell ⟨r, 2, none⟩ (.slice va ps.length vc)) (some r) ∧ EO w ((((wA.drewN mE).setCell ⟨r, 0, none⟩ (.int .i64 b)).setCell ⟨r, 1, none⟩ (.int .i64 t)).setCell ⟨r, 2, none⟩ (.slice va ps.length vc)) (.slice va ps.length vc) ps from
    ⟨pu1, grown_trans (grown_any (grown_trans HD.out.2.1 (grown_drewN wA mE none)) _) pu2, (HD.out.1.kept (grown_drewN wA mE none)).but hvE (by decide) (by decide) (by have := HR.out; omega) pu2⟩)
  refine ⟨_, by go_simp; rfl, at0 ((((wA.drewN mE).setCell ⟨r, 0, none⟩ (.int .i64 b)).setCell ⟨r, 1, none⟩ (.int .i64 t)).setCell ⟨r, 2, none⟩ (.slice va ps.length vc)) (fun W => w1.grownBy W (some r)), ⟨0, rfl⟩, shut_at0 (fun m => grown_trans HF.out.2.1 (grown_drewN _ m _)), fun _ h => h, ?_⟩
  clear hvE e0 e1 e2 z0 z1 z2 pu1 pu2
  generalize (((wA.drewN mE).setCell ⟨r, 0, none⟩ (.int .i64 b)).setCell ⟨r, 1, none⟩ (.int .i64 t)).setCell ⟨r, 2, none⟩ (.slice va ps.length vc) = wF at *
  refine mix_nil ?_
  rintro W ⟨mF, rfl⟩
  go_wp2_with fail
  refine bodyPost_ret (ret_view rfl _ _ _ _ _ _ rfl (HF.out.1.kept (grown_drewN wF mF none) (by simp))) rfl ?_
  exact ⟨_, ps, rfl, HF.out.2.2.kept (grown_drewN wF mF none), HD.out.2.2⟩
end Go.Proofs.Ytcijjepleedecaa.W
