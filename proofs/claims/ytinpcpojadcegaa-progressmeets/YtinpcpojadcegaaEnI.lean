/- firstOf, First, TermOf. -/
import Derived.Test.YtinpcpojadcegaaEnH
import Derived.Test.YtinpcpojadcegaaEMx
namespace Go.Proofs.Ytinpcpojadcegaa.W
open Go.RowKit Go.Maps
set_option linter.unusedVariables false
set_option linter.unusedSimpArgs false
set_option maxRecDepth 100000
attribute [local go_sem] Oper.semAt_some

/-- The index of the first entry of a term; 0: none. -/
def firstI (es : List Ent) (t : Int) : Int := match es.find? (fun x => x.term == t) with | some x => x.index | none => 0
theorem firstI_drop {es : List Ent} {t : Int} {k : Nat} {x : Ent} (h : firstI es t = firstI (es.drop k) t) (hx : es[k]? = some x) : firstI es t = if x.term = t then x.index else firstI (es.drop (k + 1)) t := by
  rw [h]
  obtain ⟨hk, rfl⟩ := List.getElem?_eq_some_iff.1 hx
  rw [List.drop_eq_getElem_cons hk]
  unfold firstI
  rw [List.find?_cons]
  by_cases hc : es[k].term = t
  · simp [hc]
  · have : (es[k].term == t) = false := beq_eq_false_iff_ne.2 hc
    simp [hc, this]
/-- Where firstOf stands. -/
structure FiI (D : World → Prop) (w : World) (es : List Ent) (t0 : Int) (k : Nat) (W : World) : Prop where
  d : D W
  gr : w.grownBy W none
  tm : Boxed W (w.heap.size + 1) 3 (.int .i64 t0)
  res : ∃ v, Boxed W (w.heap.size + 2) 3 (.int .i64 v)
  at_ : firstI es t0 = firstI (es.drop k) t0
theorem FiI.kept {D : World → Prop} {w : World} {es : List Ent} {t0 : Int} {k : Nat} {X Y : World} {row : Option Nat} {lo hi : Nat} (h : FiI D w es t0 k X)
    (hD : ∀ (X Y : World) (row : Option Nat), D X → X.grownBy Y row → (∀ r, row = some r → w.heap.size ≤ r ∧ (lo ≤ r → hi ≤ r)) → D Y) (hg : X.grownBy Y row) (hb : BkF hi X row) (hlo : lo ≤ hi) (h3 : w.heap.size + 3 ≤ lo) : FiI D w es t0 k Y := by
  obtain ⟨q1, q2, q3, ⟨v, q4⟩, q5⟩ := h
  refine ⟨hD _ _ _ q1 hg (fun r e => ?_), hb.grown q2 hg (by omega), boxed_low q3 hg hb (by omega), ⟨v, boxed_low q4 hg hb (by omega)⟩, q5⟩
  have := (hb r e).1
  omega

set_option maxHeartbeats 4000000 in
theorem firstOf_any (b t : Int) (lv : Value) (es : List Ent) (t0 : Int) (w : World) (h : EntsR w lv es) (hlen : es.length ≤ 10000000000000) : Calls Try.prog 54 #[viewV b t lv, .int .i64 t0] w fun e w' => e = .returned (.int .i64 (firstI es t0)) ∧ w.grownBy w' none := by
  obtain ⟨a, c, rfl⟩ := h.len
  have HE := hid_mk h
  clear h
  have hV : viewV b t (.slice a es.length c) = .agg #[.int .i64 b, .int .i64 t, .slice a es.length c] := rfl
  have HV := hid_mk hV
  rw [hV]
  clear hV
  refine (callsIn_wide (n := 11)).1 ?_
  refine callsIn_of_wp_marks Try.func54 rfl trivial ?_ rfl
  simp only [Try.ntmps54, List.size_toArray, List.length_cons, List.length_nil, Nat.reduceAdd, Nat.reduceSub, Array.replicate_succ, Array.replicate_zero, List.push_toArray, List.append_toArray, List.nil_append, List.cons_append]
  have HA := hid_mk (show VB (((w.alloc (.cells #[.int .i64 b, .int .i64 t, .slice a es.length c] 25)).alloc (.cells #[.int .i64 t0] 3)).alloc (.cells #[.int .i64 0] 3)) w.heap.size b t (.slice a es.length c) ∧ Boxed (((w.alloc (.cells #[.int .i64 b, .int .i64 t, .slice a es.length c] 25)).alloc (.cells #[.int .i64 t0] 3)).alloc (.cells #[.int .i64 0] 3)) (w.heap.size + 1) 3 (.int .i64 t0) ∧ Boxed (((w.alloc (.cells #[.int .i64 b, .int .i64 t, .slice a es.length c] 25)).alloc (.cells #[.int .i64 t0] 3)).alloc (.cells #[.int .i64 0] 3)) (w.heap.size + 2) 3 (.int .i64 0) ∧ w.grownBy (((w.alloc (.cells #[.int .i64 b, .int .i64 t, .slice a es.length c] 25)).alloc (.cells #[.int .i64 t0] 3)).alloc (.cells #[.int .i64 0] 3)) none ∧ (((w.alloc (.cells #[.int .i64 b, .int .i64 t, .slice a es.length c] 25)).alloc (.cells #[.int .i64 t0] 3)).alloc (.cells #[.int .i64 0] 3)).heap.size = w.heap.size + 3 from by
    have h1 := VB.new w b t (.slice a es.length c)
    have h2 := Boxed.new (w.alloc (.cells #[.int .i64 b, .int .i64 t, .slice a es.length c] 25)) 3 (.int .i64 t0)
    have h3 := Boxed.new ((w.alloc (.cells #[.int .i64 b, .int .i64 t, .slice a es.length c] 25)).alloc (.cells #[.int .i64 t0] 3)) 3 (.int .i64 0)
    rw [World.size_alloc] at h2
    rw [World.size_alloc, World.size_alloc] at h3
    exact ⟨(h1.kept (World.grownBy_alloc _ _ none) (by simp)).kept (World.grownBy_alloc _ _ none) (by simp), h2.alloc _, h3, grown_trans (grown_trans (World.grownBy_alloc _ _ none) (World.grownBy_alloc _ _ none)) (World.grownBy_alloc _ _ none), by simp⟩)
  gi_upto_region 1 with fail
  generalize ((w.alloc (.cells #[.int .i64 b, .int .i64 t, .slice a es.length c] 25)).alloc (.cells #[.int .i64 t0] 3)).alloc (.cells #[.int .i64 0] 3) = w2 at *
  obtain ⟨v0, v1, v2⟩ := HA.out.1.cells
  gi_wp2_with fail
  rw [← HV.out]
  refine ⟨trivial, (callsIn_wide.2 (each_any b t _ es w w2 HE.out HA.out.2.2.2.1 hlen)).mono ?_⟩
  rintro e w3 ⟨f, D, rfl, hsq, hg3⟩
  rw [HV.out]
  obtain ⟨gf, lb, hf, hseq⟩ := hsq.seq
  subst hf
  have HQ := hid_mk hseq
  have HS := hid_mk (And.intro hsq.now hsq.kept)
  have H3 := hid_mk (show Boxed w3 (w.heap.size + 1) 3 (.int .i64 t0) ∧ Boxed w3 (w.heap.size + 2) 3 (.int .i64 0) ∧ w.grownBy w3 none ∧ w2.heap.size ≤ w3.heap.size ∧ w.heap.size + 3 ≤ w2.heap.size from ⟨HA.out.2.1.kept hg3 (by simp), HA.out.2.2.1.kept hg3 (by simp), grown_trans HA.out.2.2.2.1 hg3, hg3.size, by have := HA.out.2.2.2.2; omega⟩)
  clear hsq hg3 hseq v0 v1 v2 HA
  gi_wp2_with fail
  refine range_ents HQ.out rfl rfl (FiI D w es t0) (fun k W h => h.d) ?clI (fun c W => c = .ret ∧ w.grownBy W none ∧ Boxed W (w.heap.size + 2) 3 (.int .i64 (firstI es t0))) ?clX ?start ?body ?done ?left
  case clI => exact fun k X Y row h hg hb => h.kept HS.out.2 hg hb H3.out.2.2.2.1 H3.out.2.2.2.2
  case clX =>
    rintro c X Y row ⟨h1, h2, h3⟩ hg hb
    have hz := H3.out.2.2.2
    exact ⟨h1, hb.grown h2 hg (by omega), boxed_low h3 hg hb (by omega)⟩
  case start => exact ⟨HS.out.1, H3.out.2.2.1, H3.out.1, ⟨_, H3.out.2.1⟩, by simp⟩
  case done =>
    rintro D0 W2 hD ⟨h1, h2, h3, ⟨v, h4⟩, h5⟩ hK
    have hz := H3.out.2.2.2
    have HX := hid_mk (show firstI es t0 = 0 ∧ w.grownBy W2 none ∧ Boxed W2 (w.heap.size + 2) 3 (.int .i64 v) ∧ W2.heap[D0]? = some (.deferred (some [])) ∧ w.heap.size + 3 ≤ D0 from ⟨by rw [h5]; simp [firstI], h2, h4, hK, by omega⟩)
    have qf := h4.frozen
    have qc := h4.cell
    clear h1 h2 h3 h4 h5 hK hD hz
    gi_wp2_with fail
    have g := grown_setCell W2 (w.heap.size + 2) 0 (.int .i64 0)
    have hx := HX.out
    have hlt := hx.2.2.1.lt
    have hk2 : (W2.setCell ⟨w.heap.size + 2, 0, none⟩ (.int .i64 0)).heap[D0]? = some (.deferred (some [])) := (g.block _ (Array.getElem?_eq_some_iff.1 hx.2.2.2.1).1 (by simp; omega)).trans hx.2.2.2.1
    have g2 := grownBy_putObj' (W2.setCell ⟨w.heap.size + 2, 0, none⟩ (.int .i64 0)) D0 (.deferred none)
    refine ⟨by simp, .inl ⟨_, _, rfl, run_takeDeferred hk2, ?_⟩⟩
    exact ⟨_, ret_box3 rfl _ _ _ 0 rfl ((hx.2.2.1.set _).kept g2 (by simp; omega)), by rw [hx.1], grown_new (grown_new hx.2.1 g (by omega)) g2 (by omega)⟩
  case left =>
    rintro D0 c W2 hD ⟨rfl, h1, h2⟩ hK
    have hz := H3.out.2.2.2
    have HX := hid_mk (show w.heap.size + 3 ≤ D0 from by omega)
    clear hz
    gi_wp2_with fail
    have g2 := grownBy_putObj' W2 D0 (.deferred none)
    have hd := HX.out
    refine ⟨by simp, .inl ⟨_, _, rfl, run_takeDeferred hK, ?_⟩⟩
    exact ⟨_, ret_box3 rfl _ _ _ _ rfl (h2.kept g2 (by simp; omega)), rfl, grown_new h1 g2 (by omega)⟩
  case body =>
    rintro l2 k x dv W2 rfl hsz hI hx hb hd hdf r hr
    obtain ⟨da, dn, dc, hdv⟩ : ∃ a n c, dv = .slice a n c := by
      obtain ⟨a, c, e⟩ := hb.len
      exact ⟨a, _, c, e⟩
    subst hdv
    unfold entV
    have HB := hid_mk (World.grownBy_alloc W2 (.cells #[.int .i64 x.term, .int .i64 x.index, .int .i64 x.kind, .slice da dn dc] 54) none)
    have HI := hid_mk (And.intro hsz (And.intro hI (And.intro hx hr)))
    clear hsz hI hx hb hd hdf hr
    gi_wp2
    refine ⟨BkB.none HB.out HI.out.1, KpE.none HB.out, fun o' ho' => ?_⟩
    have HY := hid_mk (round_in W2 x (.slice da dn dc) (w3.heap.size + 1) o' HI.out.2.2.2)
    clear HB
    generalize (W2.alloc (.cells #[.int .i64 x.term, .int .i64 x.index, .int .i64 x.kind, .slice da dn dc] 54)).putObj (w3.heap.size + 1) o' = Y at *
    have HP := hid_mk (show FiI D w es t0 k Y ∧ w3.heap.size + 2 ≤ Y.heap.size ∧ es[k]? = some x from by
      obtain ⟨q1, q2, q3, q7⟩ := HI.out
      obtain ⟨y1, y2, y3, y4, y5⟩ := HY.out
      exact ⟨q2.kept HS.out.2 y2 (fun r e => by cases e; exact ⟨by omega, _, q7, .inl (.inl ⟨_, rfl⟩)⟩) H3.out.2.2.2.1 H3.out.2.2.2.2, by omega, q3⟩)
    have HEB := hid_mk HY.out.1
    obtain ⟨gr, hgr⟩ : ∃ gr, gr = W2.heap.size := ⟨_, rfl⟩
    rw [← hgr] at HEB ⊢
    clear hgr HY HI
    obtain ⟨f0, f1, f2, f3, _⟩ := HEB.out.cells
    obtain ⟨_, _, ht1, ⟨vr, hr1⟩, hfi⟩ := HP.out.1
    have HFI := hid_mk (And.intro (firstI_drop hfi HP.out.2.2) hr1)
    have c1 := ht1.cell
    have z2 := hr1.frozen
    have c2 := hr1.cell
    clear ht1 hr1 hfi
    by_cases hxt : x.term = t0
    · have HF := hid_mk (show firstI es t0 = x.index by rw [HFI.out.1, if_pos hxt])
      have hxt' : (x.term == t0) = true := by rw [hxt]; exact beq_self_eq_true t0
      clear hxt
      gi_wp2_with fail
      have g := grown_setCell Y (w.heap.size + 2) 0 (.int .i64 x.index)
      have hz := H3.out.2.2.2
      have hp := HP.out.2.1
      refine ⟨⟨g.block _ (by omega) (by simp; omega), g.block _ (by omega) (by simp; omega)⟩, KpE.low g (by omega), grown_new HP.out.1.gr g (by omega), ?_⟩
      rw [HF.out]
      exact HFI.out.2.set _
    · have HF := hid_mk (show firstI es t0 = firstI (es.drop (k + 1)) t0 by rw [HFI.out.1, if_neg hxt])
      have hxt' : (x.term == t0) = false := beq_eq_false_iff_ne.2 hxt
      gi_wp2_with fail
      exact ⟨⟨rfl, rfl⟩, KpE.refl _ _, HP.out.1.d, HP.out.1.gr, HP.out.1.tm, HP.out.1.res, HF.out⟩
end Go.Proofs.Ytinpcpojadcegaa.W
