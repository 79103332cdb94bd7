/- Copy. -/
import Derived.Test.YtliefofdlpljaaaDoorCl
import Derived.Test.YtliefofdlpljaaaDoorOwnO
import Derived.Test.YtliefofdlpljaaaDoorKf
namespace Go.Proofs.YtliefofdlpljaaaDoor
open Go.RowKit Go.Maps
set_option linter.unusedVariables false
set_option linter.unusedSimpArgs false

/-- A store. -/
theorem mix_skip {P : Program} {ops : Array Oper} {Q : Act → Cl → Prop} {a : Act} {C : Cl} {i : Nat} {rest : List (Nat × Bool)} {o : Oper} (ho : ops[i]? = some o) (hw : Region.wanted o (yielded ops a.tmps) = true)
    (h : ∀ w, C.now w → ∃ w'', (execOp a.eval o).run P w = .ok .skip w'' ∧ Behind C (wpMix P ops Q rest) (a.put o.dst undef) w'') : wpMix P ops Q ((i, false) :: rest) a C :=
  ⟨o, ho, by
    rw [hw]
    exact fun w hC => by obtain ⟨w'', hr, hb⟩ := h w hC; rw [hr]; exact hb⟩

/-- Where Copy stands: the copy's block, the block that is answered. -/
structure CP (w W : World) (m : Msg) (ev sv dv : Value) (es : List (Ent × Value)) (k : Nat) : Prop where
  mb : MB W 27 w.heap.size m ev sv dv
  zero : W.heap[w.heap.size + 1]? = some (.cells zeroM 27 (0, 0))
  ec : EC w W ev es k
  es : es.map (·.1) = m.ents
theorem CP.kept {w W W' : World} {m : Msg} {ev sv dv : Value} {es : List (Ent × Value)} {k : Nat} (h : CP w W m ev sv dv es k) (hg : W.grownBy W' none) : CP w W' m ev sv dv es k :=
  ⟨h.mb.kept hg, (hg.block _ (Array.getElem?_eq_some_iff.1 h.zero).1 (by simp)).trans h.zero, h.ec.kept hg, h.es⟩
theorem CP.len {w W : World} {m : Msg} {ev sv dv : Value} {es : List (Ent × Value)} {k : Nat} (h : CP w W m ev sv dv es k) : es.length = m.ents.length := by rw [← h.es, List.length_map]
theorem CP.set {w W : World} {m : Msg} {sv dv : Value} {es : List (Ent × Value)} {k g n cap : Nat} (h : CP w W m (.slice (some ⟨g, 0, none⟩) n cap) sv dv es k) (x : Ent) (dx v' : Value) (hk : es[k]? = some (x, dx)) (ho : Own W w.heap.size v' x.data) : CP w (W.setCell ⟨g, k * 4 + 3, none⟩ v') m (.slice (some ⟨g, 0, none⟩) n cap) sv dv (es.set k (x, v')) (k + 1) := by
  have hl : k < es.length := (List.getElem?_eq_some_iff.1 hk).1
  obtain ⟨g', cap', cur, e, hlo, hb, _, _⟩ := h.ec.at (by omega)
  cases e
  have hG := grown_setCell W g (k * 4 + 3) v'
  exact ⟨(hG.block _ (Array.getElem?_eq_some_iff.1 h.mb).1 (ne_tag h.mb hb (by decide))).trans h.mb, (hG.block _ (Array.getElem?_eq_some_iff.1 h.zero).1 (ne_tag h.zero hb (by decide))).trans h.zero, h.ec.set x dx v' hk ho, by rw [EC.map_set v' hk]; exact h.es⟩
theorem CP.set10 {w W : World} {m : Msg} {ev sv dv : Value} {es : List (Ent × Value)} {k : Nat} (h : CP w W m ev sv dv es k) (v : Value) : CP w (W.setCell ⟨w.heap.size, 10, none⟩ v) m ev v dv es k := by
  have hG := grown_setCell W w.heap.size 10 v
  exact ⟨h.mb.set10 v, (hG.block _ (Array.getElem?_eq_some_iff.1 h.zero).1 (by simp)).trans h.zero, h.ec.but h.mb (by decide) (by decide) (Nat.le_refl _) hG, h.es⟩
theorem CP.set11 {w W : World} {m : Msg} {ev sv dv : Value} {es : List (Ent × Value)} {k : Nat} (h : CP w W m ev sv dv es k) (v : Value) : CP w (W.setCell ⟨w.heap.size, 11, none⟩ v) m ev sv v es k := by
  have hG := grown_setCell W w.heap.size 11 v
  exact ⟨h.mb.set11 v, (hG.block _ (Array.getElem?_eq_some_iff.1 h.zero).1 (by simp)).trans h.zero, h.ec.but h.mb (by decide) (by decide) (Nat.le_refl _) hG, h.es⟩
theorem own_mb {w W : World} {m : Msg} {ev sv dv : Value} {v : Value} {l : List UInt8} (h : Own W w.heap.size v l) (hb : MB W 27 w.heap.size m ev sv dv) (i : Nat) (z : Value) : Own (W.setCell ⟨w.heap.size, i, none⟩ z) w.heap.size v l :=
  owns_kept h (grown_setCell _ _ _ _) (fun _ _ hh => ne_tag hh hb (by decide))
theorem ownI_mb {w W : World} {m : Msg} {ev sv dv : Value} {v : Value} {l : List Int} (h : OwnI W w.heap.size v l) (hb : MB W 27 w.heap.size m ev sv dv) (i : Nat) (z : Value) : OwnI (W.setCell ⟨w.heap.size, i, none⟩ z) w.heap.size v l :=
  owns_kept h (grown_setCell _ _ _ _) (fun _ _ hh => ne_tag hh hb (by decide))

set_option maxRecDepth 100000 in
set_option maxHeartbeats 8000000 in
theorem copyM_any (m : Msg) (ev sv dv : Value) (w : World) (he : EntsR w ev m.ents) (hs : IntsR w sv m.srv) (hd : Byt w dv m.data) (hne : m.ents.length * 48 ≤ 140737488355328) (hns : m.srv.length ≤ 17592186044416) (hnd : m.data.length ≤ 140737488355328) :
    Calls Tryd.prog 19 #[.agg (msgCells m ev sv dv)] w fun e w' => ∃ ev' sv' dv' es, e = .returned (.agg (msgCells m ev' sv' dv')) ∧ es.map (·.1) = m.ents ∧ EO w w' ev' es ∧ OwnI w' w.heap.size sv' m.srv ∧ Own w' w.heap.size dv' m.data ∧ w.grownBy w' none := by
  have hle := he.len
  have hls := hs.len
  have hld := hd.len
  have HE := hid_mk he
  have HS := hid_mk hs
  have HD := hid_mk hd
  clear he hs hd
  obtain ⟨ae, ce, rfl⟩ := hle
  obtain ⟨asv, cs, rfl⟩ := hls
  obtain ⟨ad, cd, rfl⟩ := hld
  have HF : Hid (MB ((w.alloc (.cells (msgCells m (.slice ae m.ents.length ce) (.slice asv m.srv.length cs) (.slice ad m.data.length cd)) 27)).alloc (.cells zeroM 27)) 27 w.heap.size m (.slice ae m.ents.length ce) (.slice asv m.srv.length cs) (.slice ad m.data.length cd) ∧ ((w.alloc (.cells (msgCells m (.slice ae m.ents.length ce) (.slice asv m.srv.length cs) (.slice ad m.data.length cd)) 27)).alloc (.cells zeroM 27)).heap[w.heap.size + 1]? = some (.cells zeroM 27 (0, 0)) ∧ w.grownBy ((w.alloc (.cells (msgCells m (.slice ae m.ents.length ce) (.slice asv m.srv.length cs) (.slice ad m.data.length cd)) 27)).alloc (.cells zeroM 27)) none) := hid_mk (by
    have m1 : MB (w.alloc (.cells (msgCells m (.slice ae m.ents.length ce) (.slice asv m.srv.length cs) (.slice ad m.data.length cd)) 27)) 27 w.heap.size m (.slice ae m.ents.length ce) (.slice asv m.srv.length cs) (.slice ad m.data.length cd) := heap_alloc_new w _
    have s1 : (w.alloc (.cells (msgCells m (.slice ae m.ents.length ce) (.slice asv m.srv.length cs) (.slice ad m.data.length cd)) 27)).heap.size = w.heap.size + 1 := by simp
    refine ⟨m1.kept (World.grownBy_alloc _ _ _), ?_, grown_trans (World.grownBy_alloc _ _ _) (World.grownBy_alloc _ _ _)⟩
    rw [← s1]; exact heap_alloc_new _ _)
  unfold msgCells zeroM at HF
  unfold msgCells
  go_enter Tryd.func19, Tryd.ntmps19
  go_upto_region 1 with fail
  generalize ((w.alloc (.cells _ 27)).alloc (.cells _ 27)) = w0 at *
  obtain ⟨r8, r9, r10, r11, rz⟩ := HF.out.1.rest
  go_wp2_with fail
  refine (cloneE_any w _ m.ents w0 HF.out.2.2 HE.out hne).mono ?_
  rintro e w1 ⟨v1, es1, rfl, hes, hec, hg1⟩
  obtain ⟨a1, c1, e1⟩ := row_shape hec.row
  have hl1 : es1.length = m.ents.length := by rw [← hes, List.length_map]
  rw [hl1] at e1
  subst e1
  obtain ⟨p8, p9, p10, p11, pz⟩ := (HF.out.1.kept hg1).rest
  have HP := hid_mk (show CP w (w1.setCell ⟨w.heap.size, 9, none⟩ (.slice a1 m.ents.length c1)) m (.slice a1 m.ents.length c1) (.slice asv m.srv.length cs) (.slice ad m.data.length cd) es1 0 by
    have hM := HF.out.1.kept hg1
    have hZ := (hg1.block _ (Array.getElem?_eq_some_iff.1 HF.out.2.1).1 (by simp)).trans HF.out.2.1
    have hG := grown_setCell w1 w.heap.size 9 (.slice a1 m.ents.length c1)
    exact ⟨hM.set9 _, (hG.block _ (Array.getElem?_eq_some_iff.1 hZ).1 (by simp)).trans hZ, hec.but hM (by decide) (by decide) (Nat.le_refl _) hG, hes⟩)
  clear hes hec hg1 hl1 r8 r9 r10 r11 rz HF HE
  go_upto_region 2 with fail
  generalize w1.setCell ⟨w.heap.size, 9, none⟩ (.slice a1 m.ents.length c1) = w2 at *
  clear p8 p9 p10 p11 pz
  obtain ⟨p8, p9, p10, p11, pz⟩ := HP.out.mb.rest
  go_wp2_with fail
  clear p8 p9 p10 p11 pz
  go_loopw [11] (fun iv W => ∃ k : Nat, k ≤ m.ents.length ∧ iv = .int .i64 k ∧ Hid (∃ es, CP w W m (.slice a1 m.ents.length c1) (.slice asv m.srv.length cs) (.slice ad m.data.length cd) es k)) (fun iv _ => m.ents.length - (intOf iv).toNat)
  case atStart => exact ⟨0, Nat.zero_le _, rfl, hid_mk ⟨es1, HP.out⟩⟩
  case round =>
    obtain ⟨k, hk, rfl, H⟩ := hrel
    rename World => w3
    obtain ⟨es, hcp⟩ := H.out
    have HC := hid_mk hcp
    clear H HP
    by_cases hlt : k < m.ents.length
    · obtain ⟨⟨x, dx⟩, hx⟩ : ∃ p, es[k]? = some p := ⟨es[k]'(by rw [hcp.len]; exact hlt), by simp⟩
      obtain ⟨g, cap, cur, eg, hlo, hb, hcap, hcl⟩ := hcp.ec.at (by rw [hcp.len]; omega)
      rw [hcp.len] at eg
      injection eg with eg1 _ eg2
      subst eg1
      subst eg2
      have hcell : w3.cell? ⟨g, k * 4 + 3, none⟩ = some dx := by
        have := hcl k (x, dx) hx 3 (by omega)
        simpa [entCells] using this
      have hby := (hcp.ec.old k _ hx (Nat.le_refl _)).kept hcp.ec.gr
      have hxl : x.data.length ≤ 140737488355328 := hcp.ec.len _ (List.mem_of_getElem? hx)
      have HB := hid_mk (And.intro hx (And.intro hby (And.intro hlo hb)))
      have hc9 := hcp.mb.rest.2.1
      have HB9 := hid_mk hc9
      have HID : ∀ W : World, W.cell? ⟨w.heap.size, 9, none⟩ = some (.slice (some ⟨g, 0, none⟩) m.ents.length c1) → W.cell? ⟨w.heap.size, 9, none⟩ = some (.slice (some ⟨g, 0, none⟩) m.ents.length c1) := fun _ h => h
      clear hcp hcl hby hx hb
      go_upto_region 5 with fail
      refine wp_region_mix [(0, true), (1, true), (2, true), (3, true), (4, true), (5, true), (6, true), (7, true), (8, false), (9, false), (10, true), (11, true), (12, false)] (at0 w3 (fun W => W.cell? ⟨w.heap.size, 9, none⟩ = some (.slice (some ⟨g, 0, none⟩) m.ents.length c1))) (by kernel_rfl) (by kernel_rfl) rfl (by kernel_rfl) (shut_at0 (fun _ => HB9.out)) ⟨1, rfl⟩ ?_
      repeat (refine mix_rd1 rfl rfl (fun K hK => ?_); apply Exists.intro; refine ⟨fun W hW => ?_, ?_⟩; (have z9 := HID W hW; go_simp; rfl); (go_simp; refine hK _ _ ?_; clear hK K))
      refine mix_do rfl rfl ?_
      rintro W ⟨m4, rfl⟩
      refine ⟨dx, w3.drewN m4, by have hcell4 : (w3.drewN m4).cell? ⟨g, k * 4 + 3, none⟩ = some dx := hcell; go_simp, at0 w3 (fun W => W.cell? ⟨w.heap.size, 9, none⟩ = some (.slice (some ⟨g, 0, none⟩) m.ents.length c1)), ⟨m4, rfl⟩, shut_at0 (fun _ => HB9.out), fun _ h => h, ?_⟩
      have HCL := hid_mk hcell
      clear hcell
      refine mix_call rfl rfl 41 #[dx] (fun W => by go_simp) ?_
      rintro W ⟨m5, rfl⟩
      refine (cloneB_any dx x.data (w3.drewN m5) (HB.out.2.1.kept (drawn _ _)) hxl).mono ?_
      rintro e w5 ⟨v5, rfl, ho5, hg5⟩
      have H5 := hid_mk (And.intro (show Own w5 w.heap.size v5 x.data from ho5.base (by have := HC.out.ec.gr.size; exact this)) (grown_trans (drawn w3 m5) hg5))
      obtain ⟨a5, c5, e5⟩ := ho5.len
      clear ho5 hg5
      subst e5
      have hc95 := H5.out.2.cell HB9.out (by simp)
      refine ⟨_, rfl, at0 w5 (fun W => W.cell? ⟨w.heap.size, 9, none⟩ = some (.slice (some ⟨g, 0, none⟩) m.ents.length c1)), ⟨0, rfl⟩, shut_at0 (fun _ => hc95), fun _ h => h, ?_⟩
      clear hc95
      repeat (refine mix_rd1 rfl rfl (fun K hK => ?_); apply Exists.intro; refine ⟨fun W hW => ?_, ?_⟩; (go_simp; rfl); (go_simp; refine hK _ _ ?_; clear hK K))
      refine mix_skip rfl rfl ?_
      rintro W ⟨m6, rfl⟩
      have H6 := hid_mk ((HC.out.kept (grown_trans H5.out.2 (drawn w5 m6))).set x dx _ HB.out.1 (H5.out.1.kept (drawn w5 m6) (.inl rfl)))
      have hb6 : w5.heap[g]? = some (.cells cur 47 (0, 0)) := (H5.out.2.block g (Array.getElem?_eq_some_iff.1 HB.out.2.2.2).1 (by simp)).trans HB.out.2.2.2
      have hf6 : (w5.drewN m6).frozen? ⟨g, k * 4 + 3, none⟩ = false := by simp [World.frozen?, hb6]
      have hc6 := (grown_trans H5.out.2 (drawn w5 m6)).cell HCL.out (by simp)
      have h96 := H6.out.mb.rest.2.1
      clear hb6
      refine ⟨(w5.drewN m6).setCell ⟨g, k * 4 + 3, none⟩ (.slice a5 x.data.length c5), by go_simp, at0 ((w5.drewN m6).setCell ⟨g, k * 4 + 3, none⟩ (.slice a5 x.data.length c5)) (fun W => W.cell? ⟨w.heap.size, 9, none⟩ = some (.slice (some ⟨g, 0, none⟩) m.ents.length c1)), ⟨0, rfl⟩, shut_at0 (fun _ => h96), fun _ h => h, ?_⟩
      clear h96 hc6 hf6
      generalize (w5.drewN m6).setCell ⟨g, k * 4 + 3, none⟩ (.slice a5 x.data.length c5) = w6 at *
      refine mix_nil ?_
      rintro W ⟨mz, rfl⟩
      go_wp2_with fail
      go_roundw
      case rel => exact ⟨k + 1, by omega, by go_num, hid_mk ⟨_, H6.out.kept (drawn w6 mz)⟩⟩
      case measure => simp [intOf]; omega
    · have hkn : k = m.ents.length := by omega
      subst hkn
      obtain ⟨p8, p9, p10, p11, pz⟩ := hcp.mb.rest
      clear hcp
      go_upto_region 7 with fail
      go_wp2_with fail
      refine (cloneI_any _ m.srv w3 (HS.out.kept HC.out.ec.gr) hns).mono ?_
      rintro e w4 ⟨v4, rfl, ho4, hg4⟩
      obtain ⟨a4, c4, e4⟩ := ho4.len
      subst e4
      have H4 := hid_mk (And.intro ((HC.out.kept hg4).set10 (.slice a4 m.srv.length c4)) (ownI_mb (w := w) (ho4.base HC.out.ec.gr.size) (HC.out.kept hg4).mb 10 (.slice a4 m.srv.length c4)))
      clear p8 p9 p10 p11 pz
      obtain ⟨p8, p9, p10, p11, pz⟩ := (HC.out.kept hg4).mb.rest
      clear ho4 hg4
      go_upto_region 8 with fail
      generalize w4.setCell ⟨w.heap.size, 10, none⟩ (.slice a4 m.srv.length c4) = w5 at *
      clear p8 p9 p10 p11 pz
      obtain ⟨p8, p9, p10, p11, pz⟩ := H4.out.1.mb.rest
      go_wp2_with fail
      refine (cloneB_any _ m.data w5 (HD.out.kept H4.out.1.ec.gr) hnd).mono ?_
      rintro e w6 ⟨v6, rfl, ho6, hg6⟩
      obtain ⟨a6, c6, e6⟩ := ho6.len
      subst e6
      have H6 := hid_mk (And.intro ((H4.out.1.kept hg6).set11 (.slice a6 m.data.length c6)) (And.intro (ownI_mb (w := w) (H4.out.2.kept hg6) (H4.out.1.kept hg6).mb 11 (.slice a6 m.data.length c6)) (own_mb (w := w) (ho6.base H4.out.1.ec.gr.size) (H4.out.1.kept hg6).mb 11 (.slice a6 m.data.length c6))))
      clear p8 p9 p10 p11 pz
      obtain ⟨p8, p9, p10, p11, pz⟩ := (H4.out.1.kept hg6).mb.rest
      clear ho6 hg6
      go_upto_region 9 with fail
      generalize w6.setCell ⟨w.heap.size, 11, none⟩ (.slice a6 m.data.length c6) = w7 at *
      clear p8 p9 p10 p11 pz
      obtain ⟨p8, p9, p10, p11, _⟩ := H6.out.1.mb.rest
      have p0 := H6.out.1.mb.num 0 _ rfl
      have p1 := H6.out.1.mb.num 1 _ rfl
      have p2 := H6.out.1.mb.num 2 _ rfl
      have p3 := H6.out.1.mb.num 3 _ rfl
      have p4 := H6.out.1.mb.num 4 _ rfl
      have p5 := H6.out.1.mb.num 5 _ rfl
      have p6 := H6.out.1.mb.num 6 _ rfl
      have p7 := H6.out.1.mb.num 7 _ rfl
      have HB := hid_mk H6.out.1.zero
      have hz : ∀ i, w7.frozen? ⟨w.heap.size + 1, i, none⟩ = false := fun i => by have hb := HB.out; simp [World.frozen?, hb]
      have hc : ∀ i, w7.cell? ⟨w.heap.size + 1, i, none⟩ = zeroM[i]? := fun i => cell_of_row _ _ _ _ _ _ HB.out
      have z0 := hc 0
      have z1 := hc 1
      have z2 := hc 2
      have z3 := hc 3
      have z4 := hc 4
      have z5 := hc 5
      have z6 := hc 6
      have z7 := hc 7
      have z8 := hc 8
      have z9 := hc 9
      have z10 := hc 10
      have z11 := hc 11
      clear hc
      simp only [zeroM, List.getElem?_toArray, List.getElem?_cons_zero, List.getElem?_cons_succ] at z0 z1 z2 z3 z4 z5 z6 z7 z8 z9 z10 z11
      go_wp2_with fail
      have HG2 := hid_mk (grown_msg w7 (w.heap.size + 1) m (.slice a1 m.ents.length c1) (.slice a4 m.srv.length c4) (.slice a6 m.data.length c6))
      refine bodyPost_ret (ret_msg (fn := Tryd.f19) rfl _ _ (w.heap.size + 1) m _ _ _ rfl (msg_laid HB.out m _ _ _)) rfl ⟨_, _, _, es, rfl, H6.out.1.es, ?_, ?_, ?_, ?_⟩
      · have := (H6.out.1.ec.but HB.out (by decide) (by decide) (by omega) HG2.out)
        rw [← H6.out.1.len] at this
        rw [← H6.out.1.len]
        exact this.eo
      · exact owns_kept H6.out.2.1 HG2.out (fun _ _ hh => ne_tag hh HB.out (by decide))
      · exact owns_kept H6.out.2.2 HG2.out (fun _ _ hh => ne_tag hh HB.out (by decide))
      · exact grown_new H6.out.1.ec.gr HG2.out (by omega)

end Go.Proofs.YtliefofdlpljaaaDoor
