/- Same. -/
import Derived.Test.YtliefofdlpljaaaDoorKc
namespace Go.Proofs.YtliefofdlpljaaaDoor
open Go.RowKit Go.Maps
set_option linter.unusedVariables false
set_option linter.unusedSimpArgs false

theorem two_msgs (w : World) (m n : Msg) (ev sv dv ev' sv' dv' : Value) : MB ((w.alloc (.cells (msgCells m ev sv dv) 27)).alloc (.cells (msgCells n ev' sv' dv') 26)) 27 w.heap.size m ev sv dv ∧ MB ((w.alloc (.cells (msgCells m ev sv dv) 27)).alloc (.cells (msgCells n ev' sv' dv') 26)) 26 (w.heap.size + 1) n ev' sv' dv' ∧ w.grownBy ((w.alloc (.cells (msgCells m ev sv dv) 27)).alloc (.cells (msgCells n ev' sv' dv') 26)) none := by
  have m1 : MB (w.alloc (.cells (msgCells m ev sv dv) 27)) 27 w.heap.size m ev sv dv := heap_alloc_new w _
  have s1 : (w.alloc (.cells (msgCells m ev sv dv) 27)).heap.size = w.heap.size + 1 := by simp
  refine ⟨m1.kept (World.grownBy_alloc _ _ _), ?_, grown_trans (World.grownBy_alloc _ _ _) (World.grownBy_alloc _ _ _)⟩
  unfold MB
  rw [← s1]
  exact heap_alloc_new _ _

set_option maxRecDepth 100000 in
set_option maxHeartbeats 8000000 in
theorem sameM_ents (m : Msg) (es' : List Ent) (hlen : es'.length = m.ents.length) (b : Bool) (hb : m.ents = es' ↔ b = true) (ev sv dv ev' sv' dv' : Value) (w : World) (he : EntsR w ev m.ents) (hs : IntsR w sv m.srv) (hd : Byt w dv m.data) (he' : EntsR w ev' es') (hs' : IntsR w sv' m.srv) (hd' : Byt w dv' m.data) (hns : m.srv.length ≤ 140737488355328) (hne : m.ents.length ≤ 140737488355328) :
    Calls Tryd.prog 13 #[.agg (msgCells m ev sv dv), .agg (msgCells m ev' sv' dv')] w fun e w' => e = .returned (.bool b) ∧ w.grownBy w' none := by
  have hle := he.len
  have hls := hs.len
  have hld := hd.len
  have hle' := he'.len
  rw [hlen] at hle'
  have hls' := hs'.len
  have hld' := hd'.len
  have HE := hid_mk (And.intro he he')
  have HS := hid_mk (And.intro hs hs')
  have HD := hid_mk (And.intro hd hd')
  have HL := hid_mk (And.intro hlen hb)
  clear he hs hd he' hs' hd' hlen hb
  obtain ⟨ae, ce, rfl⟩ := hle
  obtain ⟨asv, cs, rfl⟩ := hls
  obtain ⟨ad, cd, rfl⟩ := hld
  obtain ⟨ae', ce', rfl⟩ := hle'
  obtain ⟨asv', cs', rfl⟩ := hls'
  obtain ⟨ad', cd', rfl⟩ := hld'
  have HF := hid_mk (two_msgs w m m (.slice ae m.ents.length ce) (.slice asv m.srv.length cs) (.slice ad m.data.length cd) (.slice ae' m.ents.length ce') (.slice asv' m.srv.length cs') (.slice ad' m.data.length cd'))
  unfold msgCells at HF
  unfold msgCells
  go_enter Tryd.func13, Tryd.ntmps13
  go_wp2_with fail
  generalize ((w.alloc (.cells _ 27)).alloc (.cells _ 26)) = w2 at *
  refine (ints_same _ _ m.srv w2 (HS.out.1.kept HF.out.2.2) (HS.out.2.kept HF.out.2.2) hns).mono ?_
  rintro e w3 ⟨rfl, n3, hw3⟩
  have G3 := hid_mk (show w2.grownBy w3 none by rw [hw3]; exact drawn _ _)
  clear hw3
  obtain ⟨_, r9, _, r11, _⟩ := (HF.out.1.kept G3.out).rest
  obtain ⟨_, s9, _, s11, _⟩ := (HF.out.2.1.kept G3.out).rest
  have t1 := (HD.out.1.kept (grown_trans HF.out.2.2 G3.out)).text
  have t2 := (HD.out.2.kept (grown_trans HF.out.2.2 G3.out)).text
  go_wp2_with fail
  go_loopw [5] (fun iv W => ∃ k : Nat, k ≤ m.ents.length ∧ iv = .int .i64 k ∧ Hid (w3.grownBy W none ∧ m.ents.take k = es'.take k)) (fun iv _ => m.ents.length - (intOf iv).toNat)
  case atStart => exact ⟨0, Nat.zero_le _, rfl, hid_mk ⟨grown_refl _ _, rfl⟩⟩
  case round =>
    obtain ⟨k, hk, rfl, H⟩ := hrel
    rename World => w4
    clear r9 r11 s9 s11 t1 t2
    have HG := hid_mk (show w.grownBy w4 none from grown_trans HF.out.2.2 (grown_trans G3.out H.out.1))
    have r9 := (HF.out.1.kept (grown_trans G3.out H.out.1)).rest.2.1
    have s9 := (HF.out.2.1.kept (grown_trans G3.out H.out.1)).rest.2.1
    by_cases hlt : k < m.ents.length
    · obtain ⟨x, hx⟩ : ∃ x, m.ents[k]? = some x := ⟨m.ents[k], by simp⟩
      have hlt' : k < es'.length := by rw [HL.out.1]; exact hlt
      obtain ⟨y, hy⟩ : ∃ y, es'[k]? = some y := ⟨es'[k], by simp⟩
      obtain ⟨eb, off, hae, hcap, hcs⟩ := (HE.out.1.kept HG.out).at (by omega)
      obtain ⟨eb', off', hae', hcap', hcs'⟩ := (HE.out.2.kept HG.out).at (by omega)
      obtain ⟨xv, q0, q1, q2, q3, hxb, hxl⟩ := hcs k x hx
      obtain ⟨yv, p0, p1, p2, p3, hyb, hyl⟩ := hcs' k y hy
      have HX := hid_mk (And.intro hx (And.intro hy (And.intro hxb hyb)))
      have HC : ∀ W, w4.grownBy W none → W.cell? ⟨w.heap.size, 9, none⟩ = some (.slice ae m.ents.length ce) ∧ W.cell? ⟨w.heap.size + 1, 9, none⟩ = some (.slice ae' m.ents.length ce') ∧ (W.cell? ⟨eb, off + k * 4, none⟩ = some (.int .i64 x.term) ∧ W.cell? ⟨eb, off + k * 4 + 1, none⟩ = some (.int .i64 x.index) ∧ W.cell? ⟨eb, off + k * 4 + 2, none⟩ = some (.int .i64 x.kind) ∧ W.cell? ⟨eb, off + k * 4 + 3, none⟩ = some xv) ∧ (W.cell? ⟨eb', off' + k * 4, none⟩ = some (.int .i64 y.term) ∧ W.cell? ⟨eb', off' + k * 4 + 1, none⟩ = some (.int .i64 y.index) ∧ W.cell? ⟨eb', off' + k * 4 + 2, none⟩ = some (.int .i64 y.kind) ∧ W.cell? ⟨eb', off' + k * 4 + 3, none⟩ = some yv) := fun W hW =>
        ⟨hW.cell r9 (by simp), hW.cell s9 (by simp), ⟨hW.cell q0 (by simp), hW.cell q1 (by simp), hW.cell q2 (by simp), hW.cell q3 (by simp)⟩, ⟨hW.cell p0 (by simp), hW.cell p1 (by simp), hW.cell p2 (by simp), hW.cell p3 (by simp)⟩⟩
      clear hx hy hxb hyb hcs hcs' q0 q1 q2 q3 p0 p1 p2 p3 hlt'
      subst hae
      subst hae'
      go_upto_region 6 with fail
      clear r9 s9
      refine wp_region_mix [(0, true), (1, true), (2, true), (3, true), (4, true), (5, true), (6, true), (7, true), (8, true), (9, true), (10, false), (11, true)] (at0 w4 (fun W => w4.grownBy W none)) (by kernel_rfl) (by kernel_rfl) rfl (by kernel_rfl) (shut_at0 (drawn w4)) ⟨1, rfl⟩ ?_
      repeat (refine mix_rd1 rfl rfl (fun K hK => ?_); apply Exists.intro; refine ⟨fun W hW => ?_, ?_⟩; (obtain ⟨z0, z1, ⟨q0, q1, q2, q3⟩, p0, p1, p2, p3⟩ := HC W hW; go_simp; rfl); (go_simp; refine hK _ _ ?_; clear hK K))
      refine mix_call rfl rfl 31 #[.agg #[.int .i64 x.term, .int .i64 x.index, .int .i64 x.kind, xv], .agg #[.int .i64 y.term, .int .i64 y.index, .int .i64 y.kind, yv]] (fun W => by go_simp) ?_
      rintro W ⟨m5, rfl⟩
      by_cases hxy : x = y
      · subst hxy
        refine (same_any x xv yv (w4.drewN m5) (HX.out.2.2.1.kept (drawn _ _)) (HX.out.2.2.2.kept (drawn _ _))).mono ?_
        rintro e w5 ⟨rfl, hg5⟩
        have G5 := hid_mk (grown_trans (drawn w4 m5) hg5)
        clear hg5
        refine ⟨_, rfl, at0 w5 (fun W => w5.grownBy W none), ⟨0, rfl⟩, shut_at0 (drawn w5), fun _ h => grown_trans G5.out h, ?_⟩
        repeat (refine mix_rd1 rfl rfl (fun K hK => ?_); apply Exists.intro; refine ⟨fun W hW => ?_, ?_⟩; (go_simp; rfl); (go_simp; refine hK _ _ ?_; clear hK K))
        refine mix_nil ?_
        rintro W ⟨mz, rfl⟩
        go_wp2_with fail
        go_roundw
        case rel =>
          refine ⟨k + 1, by omega, by go_num, hid_mk ⟨grown_trans H.out.1 (grown_trans G5.out (drawn _ mz)), ?_⟩⟩
          rw [take_snoc _ k x HX.out.1, take_snoc _ k x HX.out.2.1, H.out.2]
        case measure => simp [intOf]; omega
      · have HB := hid_mk (show b = false by
          cases b with
          | false => rfl
          | true =>
            have e := HL.out.2.2 rfl
            have h1 := HX.out.1
            rw [e, HX.out.2.1] at h1
            exact absurd (Option.some.inj h1).symm hxy)
        refine (same_no x y xv yv (w4.drewN m5) (HX.out.2.2.1.kept (drawn _ _)) (HX.out.2.2.2.kept (drawn _ _)) hxy).mono ?_
        rintro e w5 ⟨rfl, hg5⟩
        have G5 := hid_mk (grown_trans (drawn w4 m5) hg5)
        clear hg5 hxy
        refine ⟨_, rfl, at0 w5 (fun W => w5.grownBy W none), ⟨0, rfl⟩, shut_at0 (drawn w5), fun _ h => grown_trans G5.out h, ?_⟩
        repeat (refine mix_rd1 rfl rfl (fun K hK => ?_); apply Exists.intro; refine ⟨fun W hW => ?_, ?_⟩; (go_simp; rfl); (go_simp; refine hK _ _ ?_; clear hK K))
        refine mix_nil ?_
        rintro W ⟨mz, rfl⟩
        go_wp2_with fail
        go_ret
        exact ⟨ret_bool HB.out.symm, grown_trans HG.out (grown_trans G5.out (drawn _ mz))⟩
    · have hkn : k = m.ents.length := by omega
      subst hkn
      have HB := hid_mk (show b = true from HL.out.2.1 (by
        have := H.out.2
        rw [List.take_length, ← HL.out.1, List.take_length] at this
        exact this))
      go_wp2_with fail
      go_ret
      exact ⟨ret_bool HB.out.symm, HG.out⟩

theorem sameM_any (m : Msg) (ev sv dv ev' sv' dv' : Value) (w : World) (he : EntsR w ev m.ents) (hs : IntsR w sv m.srv) (hd : Byt w dv m.data) (he' : EntsR w ev' m.ents) (hs' : IntsR w sv' m.srv) (hd' : Byt w dv' m.data) (hns : m.srv.length ≤ 140737488355328) (hne : m.ents.length ≤ 140737488355328) :
    Calls Tryd.prog 13 #[.agg (msgCells m ev sv dv), .agg (msgCells m ev' sv' dv')] w fun e w' => e = .returned (.bool true) ∧ w.grownBy w' none :=
  sameM_ents m m.ents rfl true (by simp) ev sv dv ev' sv' dv' w he hs hd he' hs' hd' hns hne

end Go.Proofs.YtliefofdlpljaaaDoor
