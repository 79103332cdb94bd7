/- clash. -/
import Derived.Test.YtinpcpojadcegaaEnJ
namespace Go.Proofs.Ytinpcpojadcegaa.W
open Go.RowKit Go.Maps
set_option linter.unusedVariables false
set_option linter.unusedSimpArgs false
set_option maxRecDepth 100000
attribute [local go_sem] Oper.semAt_some

/-- The index of the first one whose term is another one than that here; 0: none. -/
def clashZ (b t : Int) (es : List Ent) : List Ent → Int
  | [] => 0
  | x :: r => if x.index ≤ b + es.length ∧ x.term ≠ termA b t es x.index then x.index else clashZ b t es r
theorem clashZ_drop {b t : Int} {es l : List Ent} {k : Nat} {x : Ent} (h : clashZ b t es l = clashZ b t es (l.drop k)) (hx : l[k]? = some x) : clashZ b t es l = if x.index ≤ b + es.length ∧ x.term ≠ termA b t es x.index then x.index else clashZ b t es (l.drop (k + 1)) := by
  rw [h]
  obtain ⟨hk, rfl⟩ := List.getElem?_eq_some_iff.1 hx
  rw [List.drop_eq_getElem_cons hk]
  rfl
theorem from_high {b2 t2 b : Int} {l : List Ent} {k : Nat} {x : Ent} (hgo : goB b2 t2 l = true) (hx : (l.drop (plc b2 l.length (b + 1)))[k]? = some x) : b + 1 ≤ x.index := by
  rw [List.getElem?_drop] at hx
  have h1 := (goB_at l hgo _ x hx).1
  have h2 := (List.getElem?_eq_some_iff.1 hx).1
  unfold plc at h1 h2
  omega
/-- Where clash stands. -/
structure ClI (D : World → Prop) (w : World) (p5 : Nat) (b t : Int) (lv : Value) (es l : List Ent) (k : Nat) (W : World) : Prop where
  d : D W
  gr : w.grownBy W none
  vb : VB W w.heap.size b t lv
  res : ∃ v, Boxed W (w.heap.size + 2) 3 (.int .i64 v)
  lst : Boxed W p5 3 (.int .i64 (b + es.length))
  at_ : clashZ b t es l = clashZ b t es (l.drop k)
theorem VB.low {W W' : World} {B g : Nat} {b t : Int} {lv : Value} {row : Option Nat} (h : VB W g b t lv) (hg : W.grownBy W' row) (hb : BkF B W row) (hk : g < B) : VB W' g b t lv := h.kept hg (hb.low hk)
theorem ClI.kept {D : World → Prop} {w : World} {p5 : Nat} {b t : Int} {lv : Value} {es l : List Ent} {k : Nat} {X Y : World} {row : Option Nat} {lo hi : Nat} (h : ClI D w p5 b t lv es l k X)
    (hD : ∀ (X Y : World) (row : Option Nat), D X → X.grownBy Y row → (∀ r, row = some r → w.heap.size ≤ r ∧ (lo ≤ r → hi ≤ r)) → D Y) (hg : X.grownBy Y row) (hb : BkF hi X row) (hlo : lo ≤ hi) (h5 : p5 < lo) (l5 : w.heap.size + 3 ≤ p5) : ClI D w p5 b t lv es l k Y := by
  obtain ⟨q1, q2, q3, ⟨v, q4⟩, q5, q6⟩ := h
  refine ⟨hD _ _ _ q1 hg (fun r e => ?_), hb.grown q2 hg (by omega), q3.low hg hb (by omega), ⟨v, boxed_low q4 hg hb (by omega)⟩, boxed_low q5 hg hb (by omega), q6⟩
  have := (hb r e).1
  omega

set_option maxHeartbeats 4000000 in
theorem clash_any (b t : Int) (lv : Value) (es : List Ent) (b2 t2 : Int) (lv2 : Value) (l2 : List Ent) (w : World) (h : EntsR w lv es) (h2 : EntsR w lv2 l2) (hr : rightV b t es = true) (hb2 : 0 ≤ b2 ∧ b2 ≤ 10000000000000) (hl2 : l2.length ≤ 8) (hgo2 : goB b2 t2 l2 = true) :
    Calls Try.prog 42 #[viewV b t lv, viewV b2 t2 lv2] w fun e w' => e = .returned (.int .i64 (clashZ b t es (l2.drop (plc b2 l2.length (b + 1))))) ∧ w.grownBy w' none := by
  obtain ⟨a, c, rfl⟩ := h.len
  obtain ⟨a2, c2, rfl⟩ := h2.len
  have HE := hid_mk (And.intro h (And.intro h2 hgo2))
  clear h h2 hgo2
  have hV : viewV b t (.slice a es.length c) = .agg #[.int .i64 b, .int .i64 t, .slice a es.length c] := rfl
  have hV2 : viewV b2 t2 (.slice a2 l2.length c2) = .agg #[.int .i64 b2, .int .i64 t2, .slice a2 l2.length c2] := rfl
  have HV := hid_mk hV
  have HV2 := hid_mk hV2
  rw [hV, hV2]
  clear hV hV2
  have hsp := rightV_spec hr
  have HR := hid_mk (And.intro hr hsp.2.2.2.2.2)
  have hb0 := hsp.1
  have hb1 := hsp.2.1
  have hl1 := hsp.2.2.2.2.1
  clear hr hsp
  refine (callsIn_wide (n := 11)).1 ?_
  refine callsIn_of_wp_marks Try.func42 rfl trivial ?_ rfl
  simp only [Try.ntmps42, List.size_toArray, List.length_cons, List.length_nil, Nat.reduceAdd, Nat.reduceSub, Array.replicate_succ, Array.replicate_zero, List.push_toArray, List.append_toArray, List.nil_append, List.cons_append]
  have HA := hid_mk (show VB (((w.alloc (.cells #[.int .i64 b, .int .i64 t, .slice a es.length c] 25)).alloc (.cells #[.int .i64 b2, .int .i64 t2, .slice a2 l2.length c2] 25)).alloc (.cells #[.int .i64 0] 3)) w.heap.size b t (.slice a es.length c) ∧ VB (((w.alloc (.cells #[.int .i64 b, .int .i64 t, .slice a es.length c] 25)).alloc (.cells #[.int .i64 b2, .int .i64 t2, .slice a2 l2.length c2] 25)).alloc (.cells #[.int .i64 0] 3)) (w.heap.size + 1) b2 t2 (.slice a2 l2.length c2) ∧ Boxed (((w.alloc (.cells #[.int .i64 b, .int .i64 t, .slice a es.length c] 25)).alloc (.cells #[.int .i64 b2, .int .i64 t2, .slice a2 l2.length c2] 25)).alloc (.cells #[.int .i64 0] 3)) (w.heap.size + 2) 3 (.int .i64 0) ∧ w.grownBy (((w.alloc (.cells #[.int .i64 b, .int .i64 t, .slice a es.length c] 25)).alloc (.cells #[.int .i64 b2, .int .i64 t2, .slice a2 l2.length c2] 25)).alloc (.cells #[.int .i64 0] 3)) none ∧ (((w.alloc (.cells #[.int .i64 b, .int .i64 t, .slice a es.length c] 25)).alloc (.cells #[.int .i64 b2, .int .i64 t2, .slice a2 l2.length c2] 25)).alloc (.cells #[.int .i64 0] 3)).heap.size = w.heap.size + 3 from by
    have h1 := VB.new w b t (.slice a es.length c)
    have h2 := VB.new (w.alloc (.cells #[.int .i64 b, .int .i64 t, .slice a es.length c] 25)) b2 t2 (.slice a2 l2.length c2)
    have h3 := Boxed.new ((w.alloc (.cells #[.int .i64 b, .int .i64 t, .slice a es.length c] 25)).alloc (.cells #[.int .i64 b2, .int .i64 t2, .slice a2 l2.length c2] 25)) 3 (.int .i64 0)
    rw [World.size_alloc] at h2
    rw [World.size_alloc, World.size_alloc] at h3
    exact ⟨(h1.kept (World.grownBy_alloc _ _ none) (by simp)).kept (World.grownBy_alloc _ _ none) (by simp), h2.kept (World.grownBy_alloc _ _ none) (by simp), h3, grown_trans (grown_trans (World.grownBy_alloc _ _ none) (World.grownBy_alloc _ _ none)) (World.grownBy_alloc _ _ none), by simp⟩)
  gi_upto_region 1 with fail
  generalize ((w.alloc (.cells #[.int .i64 b, .int .i64 t, .slice a es.length c] 25)).alloc (.cells #[.int .i64 b2, .int .i64 t2, .slice a2 l2.length c2] 25)).alloc (.cells #[.int .i64 0] 3) = w2 at *
  obtain ⟨v0, v1, v2⟩ := HA.out.1.cells
  gi_wp2_with fail
  rw [← HV.out]
  refine ⟨trivial, (callsIn_wide.2 (end_any b t _ es w2 (HE.out.1.kept HA.out.2.2.2.1) (by omega))).mono ?_⟩
  rintro e w3 ⟨rfl, hg3⟩
  rw [HV.out, endI_of HR.out.2]
  obtain ⟨T0, hT0⟩ : ∃ T0, T0 = endT t es := ⟨_, rfl⟩
  rw [← hT0]
  clear hT0 v0 v1 v2
  have H3 := hid_mk (show VB (w3.alloc (.cells #[.int .i64 (b + es.length)] 3)) w.heap.size b t (.slice a es.length c) ∧ VB (w3.alloc (.cells #[.int .i64 (b + es.length)] 3)) (w.heap.size + 1) b2 t2 (.slice a2 l2.length c2) ∧ Boxed (w3.alloc (.cells #[.int .i64 (b + es.length)] 3)) (w.heap.size + 2) 3 (.int .i64 0) ∧ Boxed (w3.alloc (.cells #[.int .i64 (b + es.length)] 3)) w3.heap.size 3 (.int .i64 (b + es.length)) ∧ w.grownBy (w3.alloc (.cells #[.int .i64 (b + es.length)] 3)) none ∧ w.heap.size + 3 ≤ w3.heap.size ∧ w3.heap.size < (w3.alloc (.cells #[.int .i64 (b + es.length)] 3)).heap.size from by
    have ga := World.grownBy_alloc w3 (.cells #[.int .i64 (b + es.length)] 3) none
    obtain ⟨q1, q2, q3, q4, q5⟩ := HA.out
    have := hg3.size
    exact ⟨(q1.kept hg3 (by simp)).kept ga (by simp), (q2.kept hg3 (by simp)).kept ga (by simp), (q3.kept hg3 (by simp)).kept ga (by simp), Boxed.new _ _ _, grown_trans (grown_trans q4 hg3) ga, by omega, by simp⟩)
  gi_upto_region 2 with fail
  clear hg3 HA
  generalize w3.alloc (.cells #[.int .i64 (b + es.length)] 3) = w4 at *
  obtain ⟨p5, hp5⟩ : ∃ p5, p5 = w3.heap.size := ⟨_, rfl⟩
  rw [← hp5] at H3 ⊢
  clear hp5
  obtain ⟨u0, u1, u2⟩ := H3.out.1.cells
  obtain ⟨v0, v1, v2⟩ := H3.out.2.1.cells
  gi_wp2_with fail
  rw [← HV2.out]
  refine ⟨trivial, (callsIn_wide.2 (from_any b2 t2 _ l2 (b + 1) w w4 HE.out.2.1 H3.out.2.2.2.2.1 (by omega) hb2 (by unfold I64; omega) HE.out.2.2)).mono ?_⟩
  rintro e w5 ⟨f, D, rfl, hsq, hg5⟩
  rw [HV2.out]
  obtain ⟨gf, lb, hf, hseq⟩ := hsq.seq
  subst hf
  have HQ := hid_mk hseq
  have HS := hid_mk (And.intro hsq.now hsq.kept)
  have H5 := hid_mk (show VB w5 w.heap.size b t (.slice a es.length c) ∧ Boxed w5 (w.heap.size + 2) 3 (.int .i64 0) ∧ Boxed w5 p5 3 (.int .i64 (b + es.length)) ∧ w.grownBy w5 none ∧ w4.heap.size ≤ w5.heap.size ∧ p5 < w4.heap.size ∧ w.heap.size + 3 ≤ p5 from by
    obtain ⟨q1, q2, q3, q4, q5, q6, q7⟩ := H3.out
    exact ⟨q1.kept hg5 (by simp), q3.kept hg5 (by simp), q4.kept hg5 (by simp), grown_trans q5 hg5, hg5.size, q7, q6⟩)
  have HHI := hid_mk (fun k x (hx : (l2.drop (plc b2 l2.length (b + 1)))[k]? = some x) => from_high (b := b) HE.out.2.2 hx)
  obtain ⟨l, hl⟩ : ∃ l, l = l2.drop (plc b2 l2.length (b + 1)) := ⟨_, rfl⟩
  rw [← hl] at HQ HHI
  have HLL := hid_mk hl
  clear hsq hg5 hseq v0 v1 v2 u0 u1 u2 H3 hl
  gi_wp2_with fail
  refine range_ents HQ.out rfl rfl (ClI D w p5 b t (.slice a es.length c) es l) (fun k W h => h.d) ?clI (fun c W => c = .ret ∧ w.grownBy W none ∧ Boxed W (w.heap.size + 2) 3 (.int .i64 (clashZ b t es l))) ?clX ?start ?body ?done ?left
  case clI => exact fun k X Y row h hg hb => h.kept HS.out.2 hg hb H5.out.2.2.2.2.1 H5.out.2.2.2.2.2.1 H5.out.2.2.2.2.2.2
  case clX =>
    rintro c X Y row ⟨h1, h2, h3⟩ hg hb
    have hz := H5.out.2.2.2.2
    exact ⟨h1, hb.grown h2 hg (by omega), boxed_low h3 hg hb (by omega)⟩
  case start => exact ⟨HS.out.1, H5.out.2.2.2.1, H5.out.1, ⟨_, H5.out.2.1⟩, H5.out.2.2.1, by simp⟩
  case done =>
    rintro D0 W2 hD ⟨h1, h2, h3, ⟨v, h4⟩, h5, h6⟩ hK
    have hz := H5.out.2.2.2.2
    have HX := hid_mk (show clashZ b t es l = 0 ∧ w.grownBy W2 none ∧ Boxed W2 (w.heap.size + 2) 3 (.int .i64 v) ∧ W2.heap[D0]? = some (.deferred (some [])) ∧ w.heap.size + 3 ≤ D0 from ⟨by rw [h6]; simp [clashZ], h2, h4, hK, by omega⟩)
    have qf := h4.frozen
    have qc := h4.cell
    clear h1 h2 h3 h4 h5 h6 hK hD hz
    gi_wp2_with fail
    have g := grown_setCell W2 (w.heap.size + 2) 0 (.int .i64 0)
    have hx := HX.out
    have hlt := hx.2.2.1.lt
    have hk2 : (W2.setCell ⟨w.heap.size + 2, 0, none⟩ (.int .i64 0)).heap[D0]? = some (.deferred (some [])) := (g.block _ (Array.getElem?_eq_some_iff.1 hx.2.2.2.1).1 (by simp; omega)).trans hx.2.2.2.1
    have g2 := grownBy_putObj' (W2.setCell ⟨w.heap.size + 2, 0, none⟩ (.int .i64 0)) D0 (.deferred none)
    refine ⟨by simp, .inl ⟨_, _, rfl, run_takeDeferred hk2, ?_⟩⟩
    exact ⟨_, ret_box3 rfl _ _ _ 0 rfl ((hx.2.2.1.set _).kept g2 (by simp; omega)), by rw [← HLL.out, hx.1], grown_new (grown_new hx.2.1 g (by omega)) g2 (by omega)⟩
  case left =>
    rintro D0 c W2 hD ⟨rfl, h1, h2⟩ hK
    have hz := H5.out.2.2.2.2
    have HX := hid_mk (show w.heap.size + 3 ≤ D0 from by omega)
    clear hz
    gi_wp2_with fail
    have g2 := grownBy_putObj' W2 D0 (.deferred none)
    have hd := HX.out
    refine ⟨by simp, .inl ⟨_, _, rfl, run_takeDeferred hK, ?_⟩⟩
    exact ⟨_, ret_box3 rfl _ _ _ _ rfl (h2.kept g2 (by simp; omega)), by rw [← HLL.out], grown_new h1 g2 (by omega)⟩
  case body =>
    rintro lp k x dv W2 rfl hsz hI hx hb hd hdf r hr
    obtain ⟨da, dn, dc, hdv⟩ : ∃ a n c, dv = .slice a n c := by
      obtain ⟨a, c, e⟩ := hb.len
      exact ⟨a, _, c, e⟩
    subst hdv
    unfold entV
    have HB := hid_mk (World.grownBy_alloc W2 (.cells #[.int .i64 x.term, .int .i64 x.index, .int .i64 x.kind, .slice da dn dc] 54) none)
    have hxi := HHI.out k x hx
    have HI := hid_mk (And.intro hsz (And.intro hI (And.intro hx hr)))
    clear hsz hI hx hb hd hdf hr
    gi_wp2
    refine ⟨BkB.none HB.out HI.out.1, KpE.none HB.out, fun o' ho' => ?_⟩
    have HY := hid_mk (round_in W2 x (.slice da dn dc) (w5.heap.size + 1) o' HI.out.2.2.2)
    clear HB
    generalize (W2.alloc (.cells #[.int .i64 x.term, .int .i64 x.index, .int .i64 x.kind, .slice da dn dc] 54)).putObj (w5.heap.size + 1) o' = Y at *
    have HP := hid_mk (show ClI D w p5 b t (.slice a es.length c) es l k Y ∧ w5.heap.size + 2 ≤ Y.heap.size ∧ l[k]? = some x from by
      obtain ⟨q1, q2, q3, q7⟩ := HI.out
      obtain ⟨y1, y2, y3, y4, y5⟩ := HY.out
      exact ⟨q2.kept HS.out.2 y2 (fun r e => by cases e; exact ⟨by omega, _, q7, .inl (.inl ⟨_, rfl⟩)⟩) H5.out.2.2.2.2.1 H5.out.2.2.2.2.2.1 H5.out.2.2.2.2.2.2, by omega, q3⟩)
    have HEB := hid_mk HY.out.1
    obtain ⟨gr, hgr⟩ : ∃ gr, gr = W2.heap.size := ⟨_, rfl⟩
    rw [← hgr] at HEB ⊢
    clear hgr HY HI
    have HCD := hid_mk (clashZ_drop HP.out.1.at_ HP.out.2.2)
    have HCL : ∀ W, Y.grownBy W none → W.cell? ⟨gr, 0, none⟩ = some (.int .i64 x.term) ∧ W.cell? ⟨gr, 1, none⟩ = some (.int .i64 x.index) ∧ W.cell? ⟨p5, 0, none⟩ = some (.int .i64 (b + es.length)) ∧ W.cell? ⟨w.heap.size, 0, none⟩ = some (.int .i64 b) ∧ W.cell? ⟨w.heap.size, 1, none⟩ = some (.int .i64 t) ∧ W.cell? ⟨w.heap.size, 2, none⟩ = some (.slice a es.length c) := fun W hW => by
      obtain ⟨f0, f1, _⟩ := (HEB.out.kept hW).cells
      exact ⟨f0, f1, (HP.out.1.lst.kept hW (by simp)).cell, (HP.out.1.vb.kept hW (by simp)).cells⟩
    have HEND := hid_mk (show ∀ Y2, Y.grownBy Y2 none → BkB w5.heap.size Y Y2 ∧ KpE (w5.heap.size + 2) Y Y2 ∧ ClI D w p5 b t (.slice a es.length c) es l k Y2 from fun Y2 hg => ⟨BkB.none hg HP.out.2.1, KpE.none hg, HP.out.1.kept HS.out.2 hg (BkF.none _ _) H5.out.2.2.2.2.1 H5.out.2.2.2.2.2.1 H5.out.2.2.2.2.2.2⟩)
    by_cases hle : x.index ≤ b + es.length
    · have hle' : decide (x.index ≤ b + es.length) = true := decide_eq_true hle
      gi_upto_region 4 with fail
      refine wpIn_region_mix [(0, true), (1, true), (2, true), (3, true), (4, true), (5, true), (6, true), (7, true), (8, true), (9, true), (10, false), (11, true), (12, true)] (at0 Y (fun W => Y.grownBy W none)) (by kernel_rfl) (by kernel_rfl) (by kernel_rfl) rfl (by kernel_rfl) (shut_at0 (fun m => grown_drewN _ m _)) ⟨1, rfl⟩ ?_
      repeat (refine mix_rd1 rfl rfl (fun K hK => ?_); apply Exists.intro; refine ⟨fun W hW => ?_, ?_⟩; (obtain ⟨d0, d1, d2, d3, d4, d5⟩ := HCL W hW; go_simp; rfl); (go_simp; refine hK _ _ ?_; clear hK K))
      refine mix_call rfl rfl 49 #[viewV b t (.slice a es.length c), .int .i64 x.index] (fun W => by rw [HV.out]; go_simp) ?_
      rintro W ⟨m4, rfl⟩
      refine (termAt_any b t _ es x.index (Y.drewN m4) (HE.out.1.kept (grown_trans HP.out.1.gr (grown_drewN _ m4 none))) (by omega) (by omega) (by omega) HR.out.2).mono ?_
      rintro e y4 ⟨rfl, hg4⟩
      have G4 := hid_mk (show Y.grownBy y4 none from grown_trans (grown_drewN _ m4 none) hg4)
      clear hg4
      refine ⟨_, rfl, at0 y4 (fun W => Y.grownBy W none), ⟨0, rfl⟩, shut_at0 (all_kept G4.out), fun _ h => h, ?_⟩
      obtain ⟨A0, hA0⟩ : ∃ A0, A0 = termA b t es x.index := ⟨_, rfl⟩
      rw [← hA0] at HCD ⊢
      clear hA0
      by_cases hne : x.term = A0
      · have hne' : (x.term != A0) = false := by rw [hne]; simp
        have HF := hid_mk (show clashZ b t es l = clashZ b t es (l.drop (k + 1)) by rw [HCD.out, if_neg (fun h => h.2 hne)])
        clear hne
        repeat (refine mix_rd1 rfl rfl (fun K hK => ?_); apply Exists.intro; refine ⟨fun W hW => ?_, ?_⟩; (go_simp; rfl); (go_simp; refine hK _ _ ?_; clear hK K))
        refine mix_nil ?_
        rintro W ⟨m7, rfl⟩
        gi_wp2_with fail
        obtain ⟨e1, e2, e3⟩ := HEND.out (y4.drewN m7) (grown_trans G4.out (grown_drewN _ m7 none))
        exact ⟨e1, e2, e3.d, e3.gr, e3.vb, e3.res, e3.lst, HF.out⟩
      · have hne' : (x.term != A0) = true := by simpa using hne
        have HF := hid_mk (show clashZ b t es l = x.index by rw [HCD.out, if_pos ⟨hle, hne⟩])
        repeat (refine mix_rd1 rfl rfl (fun K hK => ?_); apply Exists.intro; refine ⟨fun W hW => ?_, ?_⟩; (go_simp; rfl); (go_simp; refine hK _ _ ?_; clear hK K))
        refine mix_nil ?_
        rintro W ⟨m7, rfl⟩
        obtain ⟨e1, e2, e3⟩ := HEND.out (y4.drewN m7) (grown_trans G4.out (grown_drewN _ m7 none))
        obtain ⟨d0, d1, _⟩ := HCL (y4.drewN m7) (grown_trans G4.out (grown_drewN _ m7 none))
        obtain ⟨vr, hvr⟩ := e3.res
        have zr := hvr.frozen
        have cr := hvr.cell
        have HEE := hid_mk (And.intro e1 (And.intro e2 (And.intro e3 (And.intro hvr (grown_trans G4.out (grown_drewN _ m7 none)).size))))
        clear e1 e2 e3 hvr
        generalize y4.drewN m7 = y5 at *
        gi_wp2_with fail
        obtain ⟨e1, e2, e3, hvr, hsz⟩ := HEE.out
        have g := grown_setCell y5 (w.heap.size + 2) 0 (.int .i64 x.index)
        have hz := H5.out.2.2.2.2
        have hp := HP.out.2.1
        refine ⟨e1.trans ⟨g.block _ (by omega) (by simp; omega), g.block _ (by omega) (by simp; omega)⟩, e2.trans (KpE.low g (by omega)), grown_new e3.gr g (by omega), ?_⟩
        rw [HF.out]
        exact hvr.set _
    · have hle' : decide (x.index ≤ b + es.length) = false := decide_eq_false hle
      have HF := hid_mk (show clashZ b t es l = clashZ b t es (l.drop (k + 1)) by rw [HCD.out, if_neg (fun h => hle h.1)])
      gi_upto_region 4 with fail
      refine wpIn_region_mix [(0, true), (1, true), (2, true), (3, true), (4, true), (5, true), (6, true), (7, true), (8, true), (9, true), (10, false), (11, true), (12, true)] (at0 Y (fun W => Y.grownBy W none)) (by kernel_rfl) (by kernel_rfl) (by kernel_rfl) rfl (by kernel_rfl) (shut_at0 (fun m => grown_drewN _ m _)) ⟨1, rfl⟩ ?_
      repeat (first | (refine mix_no1 rfl rfl (fun K hK => ?_); go_simp; refine hK _ _ ?_; clear hK K) | (refine mix_rd1 rfl rfl (fun K hK => ?_); apply Exists.intro; refine ⟨fun W hW => ?_, ?_⟩; (obtain ⟨d0, d1, d2, d3, d4, d5⟩ := HCL W hW; go_simp; rfl); (go_simp; refine hK _ _ ?_; clear hK K)))
      refine mix_nil ?_
      rintro W ⟨m7, rfl⟩
      gi_wp2_with fail
      obtain ⟨e1, e2, e3⟩ := HEND.out (Y.drewN m7) (grown_drewN _ m7 none)
      exact ⟨e1, e2, e3.d, e3.gr, e3.vb, e3.res, e3.lst, HF.out⟩
end Go.Proofs.Ytinpcpojadcegaa.W
