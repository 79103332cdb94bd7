/- MessageApart: its walk. -/
import Derived.Test.YtliefofdlpljaaaDoorOwnO
import Derived.Test.YtliefofdlpljaaaDoorSnD
import Derived.Test.YtliefofdlpljaaaDoorGp
namespace Go.Proofs.YtliefofdlpljaaaDoor
open Go.RowKit Go.Maps
set_option linter.unusedVariables false
set_option linter.unusedSimpArgs false

theorem two_refs (w : World) (m n : Msg) (ev sv dv ev' sv' dv' : Value) : MB ((w.alloc (.cells (msgCells m ev sv dv) 26)).alloc (.cells (msgCells n ev' sv' dv') 26)) 26 w.heap.size m ev sv dv ∧ MB ((w.alloc (.cells (msgCells m ev sv dv) 26)).alloc (.cells (msgCells n ev' sv' dv') 26)) 26 (w.heap.size + 1) n ev' sv' dv' ∧ w.grownBy ((w.alloc (.cells (msgCells m ev sv dv) 26)).alloc (.cells (msgCells n ev' sv' dv') 26)) none := by
  have m1 : MB (w.alloc (.cells (msgCells m ev sv dv) 26)) 26 w.heap.size m ev sv dv := heap_alloc_new w _
  have s1 : (w.alloc (.cells (msgCells m ev sv dv) 26)).heap.size = w.heap.size + 1 := by simp
  refine ⟨m1.kept (World.grownBy_alloc _ _ _), ?_, grown_trans (World.grownBy_alloc _ _ _) (World.grownBy_alloc _ _ _)⟩
  unfold MB
  rw [← s1]
  exact heap_alloc_new _ _
/-- What a message that came in is. -/
structure MsgIn (w : World) (m : Msg) (ev sv dv : Value) : Prop where
  e : EntsR w ev m.ents
  s : IntsR w sv m.srv
  d : Byt w dv m.data
  ne : m.ents.length * 48 ≤ 140737488355328
  ns : m.srv.length ≤ 17592186044416
  nd : m.data.length + 2 ≤ 140737488355328
theorem MsgIn.kept {w w' : World} {m : Msg} {ev sv dv : Value} (h : MsgIn w m ev sv dv) (hg : w.grownBy w' none) : MsgIn w' m ev sv dv := ⟨h.e.kept hg, h.s.kept hg, h.d.kept hg, h.ne, h.ns, h.nd⟩
theorem ownM_in (m : Msg) (ev sv dv : Value) (w : World) (h : MsgIn w m ev sv dv) : Calls Tryd.prog 9 #[.agg (msgCells m ev sv dv)] w fun e w' => ∃ ev' sv' dv', e = .returned (.agg (msgCells m ev' sv' dv')) ∧ MsgIn w' m ev' sv' dv' ∧ w.grownBy w' none :=
  (ownM_any m ev sv dv w h.e h.s h.d h.ne h.ns (by have := h.nd; omega)).mono fun e w' ⟨ev', sv', dv', he, h1, h2, h3, hg⟩ => ⟨ev', sv', dv', he, ⟨h1, h2, h3, h.ne, h.ns, h.nd⟩, hg⟩
theorem putM_in (m : Msg) (ev sv dv : Value) (w : World) (h : MsgIn w m ev sv dv) (hsp : Spans w) : Calls Tryd.prog 10 #[.agg (msgCells m ev sv dv)] w (OkPost (msgL m) (msgErr m) w) := putM_any m ev sv dv w h.e h.s h.d hsp
theorem sameM_in (m n : Msg) (b : Bool) (hb : m = n ↔ b = true) (ev sv dv ev' sv' dv' : Value) (w : World) (h : MsgIn w m ev sv dv) (h' : MsgIn w n ev' sv' dv') : Calls Tryd.prog 13 #[.agg (msgCells m ev sv dv), .agg (msgCells n ev' sv' dv')] w fun e w' => e = .returned (.bool b) ∧ w.grownBy w' none :=
  sameM_gen m n b hb ev sv dv ev' sv' dv' w h.e h.s h.d h'.e h'.s h'.d (by have := h.ns; omega) (by have := h.ne; omega) (by have := h'.ns; omega)
theorem MsgIn.slices {w : World} {m : Msg} {ev sv dv : Value} (h : MsgIn w m ev sv dv) : ∃ a1 n1 c1 a2 n2 c2 a3 n3 c3, ev = .slice a1 n1 c1 ∧ sv = .slice a2 n2 c2 ∧ dv = .slice a3 n3 c3 := by
  obtain ⟨ae, ce, e1⟩ := h.e.len
  obtain ⟨asv, cs, e2⟩ := h.s.len
  obtain ⟨ad, cd, e3⟩ := h.d.len
  exact ⟨_, _, _, _, _, _, _, _, _, e1, e2, e3⟩

set_option maxRecDepth 100000 in
set_option maxHeartbeats 8000000 in
theorem apart_any (m n : Msg) (ev sv dv ev' sv' dv' : Value) (w : World) (h : MsgIn w m ev sv dv) (h' : MsgIn w n ev' sv' dv') (hsp : Spans w) :
    Calls Tryd.prog 7 #[.agg (msgCells m ev sv dv), .agg (msgCells n ev' sv' dv')] w fun e w' => e = .returned (.bool true) ∧ w.grownBy w' none := by
  have q1 := h.slices
  have q2 := h'.slices
  have HI := hid_mk (And.intro h h')
  have HP := hid_mk hsp
  clear h h' hsp
  obtain ⟨a1, n1, c1, a2, n2, c2, a3, n3, c3, rfl, rfl, rfl⟩ := q1
  obtain ⟨b1, k1, d1, b2, k2, d2, b3, k3, d3, rfl, rfl, rfl⟩ := q2
  have HF := hid_mk (two_refs w m n (.slice a1 n1 c1) (.slice a2 n2 c2) (.slice a3 n3 c3) (.slice b1 k1 d1) (.slice b2 k2 d2) (.slice b3 k3 d3))
  unfold msgCells at HF
  unfold msgCells
  go_enter Tryd.func7, Tryd.ntmps7
  go_wp2_with fail
  generalize ((w.alloc (.cells _ 26)).alloc (.cells _ 26)) = w2 at *
  refine (ownM_in m _ _ _ w2 (HI.out.1.kept HF.out.2.2)).mono ?_
  rintro e w3 ⟨e3, s3, t3, rfl, hi3, hg3⟩
  have H3 := hid_mk (And.intro hi3 hg3)
  clear hi3 hg3
  go_wp2_with fail
  refine (putM_in m e3 s3 t3 w3 H3.out.1 (HP.out.kept (grown_trans HF.out.2.2 H3.out.2))).mono ?_
  rintro e w4 ⟨a4, c4, rfl, ho4, hg4⟩
  have H4 := hid_mk (And.intro ho4 (grown_trans H3.out.2 hg4))
  clear ho4 hg4 H3
  obtain ⟨p8, p9, p10, p11, _⟩ := (HF.out.2.1.kept H4.out.2).rest
  have p0 := (HF.out.2.1.kept H4.out.2).num 0 _ rfl
  have p1 := (HF.out.2.1.kept H4.out.2).num 1 _ rfl
  have p2 := (HF.out.2.1.kept H4.out.2).num 2 _ rfl
  have p3 := (HF.out.2.1.kept H4.out.2).num 3 _ rfl
  have p4 := (HF.out.2.1.kept H4.out.2).num 4 _ rfl
  have p5 := (HF.out.2.1.kept H4.out.2).num 5 _ rfl
  have p6 := (HF.out.2.1.kept H4.out.2).num 6 _ rfl
  have p7 := (HF.out.2.1.kept H4.out.2).num 7 _ rfl
  generalize hn4 : (msgL m).length = n4 at *
  generalize hem : msgErr m = em at *
  have HNM := hid_mk hem
  clear hn4 hem
  go_wp2_with fail
  clear p0 p1 p2 p3 p4 p5 p6 p7 p8 p9 p10 p11
  refine (ownM_in n _ _ _ w4 (HI.out.2.kept (grown_trans HF.out.2.2 H4.out.2))).mono ?_
  rintro e w5 ⟨e5, s5, t5, rfl, hi5, hg5⟩
  have H5 := hid_mk (And.intro hi5 (grown_trans H4.out.2 hg5))
  have T5 := hid_mk (H4.out.1.byt.kept hg5)
  clear hi5 hg5
  go_wp2_with fail
  refine (putM_in n e5 s5 t5 w5 H5.out.1 (HP.out.kept (grown_trans HF.out.2.2 H5.out.2))).mono ?_
  rintro e w6 ⟨a6, c6, rfl, ho6, hg6⟩
  have G6 := hid_mk (grown_trans H5.out.2 hg6)
  have T4 := hid_mk (T5.out.kept hg6)
  have T6 := hid_mk ho6.byt
  clear ho6 hg6 H5 T5
  generalize hn6 : (msgL n).length = n6 at *
  generalize hen : msgErr n = en at *
  have HNN := hid_mk hen
  clear hn6 hen
  cases hrm : rightM m with
  | false =>
    obtain rfl : em = 1 := by rw [← HNM.out]; exact (msgL_bad hrm).2
    clear hrm
    go_wp2_with (go_at_call 12; refine (num_any _ _).mono ?_; rintro e wx ⟨rfl, hwx⟩; subst wx)
    refine (knowsM_any w6 (HP.out.kept (grown_trans HF.out.2.2 G6.out))).mono ?_
    rintro e w7 ⟨rfl, hg7⟩
    have G7 := hid_mk hg7
    clear hg7
    go_wp2_with fail
    go_ret
    exact ⟨rfl, grown_trans HF.out.2.2 (grown_trans G6.out G7.out)⟩
  | true =>
    obtain rfl : em = 0 := by rw [← HNM.out]; exact (msgL_ok hrm).2
    cases hrn : rightM n with
    | false =>
      obtain rfl : en = 1 := by rw [← HNN.out]; exact (msgL_bad hrn).2
      clear hrm hrn
      go_wp2_with (go_at_call 12; refine (num_any _ _).mono ?_; rintro e wx ⟨rfl, hwx⟩; subst wx)
      refine (knowsM_any w6 (HP.out.kept (grown_trans HF.out.2.2 G6.out))).mono ?_
      rintro e w7 ⟨rfl, hg7⟩
      have G7 := hid_mk hg7
      clear hg7
      go_wp2_with fail
      go_ret
      exact ⟨rfl, grown_trans HF.out.2.2 (grown_trans G6.out G7.out)⟩
    | true =>
      obtain rfl : en = 0 := by rw [← HNN.out]; exact (msgL_ok hrn).2
      have HR := hid_mk (And.intro hrm hrn)
      clear hrm hrn
      have HC : ∀ W, w6.grownBy W none → (convert 24 9 (.slice a4 n4 c4)).run Tryd.prog W = .ok (.string ⟨(msgL m).toArray⟩) W ∧ (convert 24 9 (.slice a6 n6 c6)).run Tryd.prog W = .ok (.string ⟨(msgL n).toArray⟩) W := fun W hW => ⟨(T4.out.kept hW).text, (T6.out.kept hW).text⟩
      go_upto_region 5 with (go_at_call 12; refine (num_any _ _).mono ?_; rintro e wx ⟨rfl, hwx⟩; subst wx)
      by_cases hmn : m = n
      · subst hmn
        refine wp_region_mix [(0, true), (1, true), (2, true), (3, true), (4, true), (5, true), (7, true), (6, false), (8, false), (9, true), (10, true), (11, false), (12, true), (13, true)] (at0 w6 (fun W => w6.grownBy W none)) (by kernel_rfl) (by kernel_rfl) rfl (by kernel_rfl) (shut_at0 (drawn w6)) ⟨1, rfl⟩ ?_
        repeat (first
          | (refine mix_no1 rfl rfl (fun K hK => ?_); go_simp; refine hK _ _ ?_; clear hK K)
          | (refine mix_rd1 rfl rfl (fun K hK => ?_); apply Exists.intro; refine ⟨fun W hW => ?_, ?_⟩; (obtain ⟨f1, f2⟩ := HC W hW; go_simp; rfl); (go_simp; refine hK _ _ ?_; clear hK K))
          | (refine mix_rd1 rfl rfl (fun K hK => ?_); apply Exists.intro; refine ⟨fun W hW => ?_, ?_⟩; (have k := HF.out.1.kept (grown_trans G6.out hW); obtain ⟨r8, r9, r10, r11, _⟩ := k.rest; have r0 := k.num 0 _ rfl; have r1 := k.num 1 _ rfl; have r2 := k.num 2 _ rfl; have r3 := k.num 3 _ rfl; have r4 := k.num 4 _ rfl; have r5 := k.num 5 _ rfl; have r6 := k.num 6 _ rfl; have r7 := k.num 7 _ rfl; clear k; go_simp; rfl); (go_simp; refine hK _ _ ?_; clear hK K))
          | (refine mix_rd1 rfl rfl (fun K hK => ?_); apply Exists.intro; refine ⟨fun W hW => ?_, ?_⟩; (have k := HF.out.2.1.kept (grown_trans G6.out hW); obtain ⟨r8, r9, r10, r11, _⟩ := k.rest; have r0 := k.num 0 _ rfl; have r1 := k.num 1 _ rfl; have r2 := k.num 2 _ rfl; have r3 := k.num 3 _ rfl; have r4 := k.num 4 _ rfl; have r5 := k.num 5 _ rfl; have r6 := k.num 6 _ rfl; have r7 := k.num 7 _ rfl; clear k; go_simp; rfl); (go_simp; refine hK _ _ ?_; clear hK K)))
        refine mix_call rfl rfl 9 #[.agg (msgCells m (.slice a1 n1 c1) (.slice a2 n2 c2) (.slice a3 n3 c3))] (fun W => by unfold msgCells; go_simp) ?_
        rintro W ⟨m7, rfl⟩
        refine (ownM_in m _ _ _ (w6.drewN m7) (HI.out.1.kept (grown_trans HF.out.2.2 (grown_trans G6.out (drawn _ _))))).mono ?_
        rintro e w7 ⟨e7, s7, t7, rfl, hi7, hg7⟩
        have H7 := hid_mk (And.intro hi7 (grown_trans (drawn w6 m7) hg7))
        clear hi7 hg7
        refine ⟨_, rfl, at0 w7 (fun W => w7.grownBy W none), ⟨0, rfl⟩, shut_at0 (drawn w7), fun _ h => grown_trans H7.out.2 h, ?_⟩
        refine mix_call rfl rfl 13 #[.agg (msgCells m e7 s7 t7), .agg (msgCells m (.slice b1 k1 d1) (.slice b2 k2 d2) (.slice b3 k3 d3))] (fun W => by unfold msgCells; go_simp) ?_
        rintro W ⟨m8, rfl⟩
        refine (sameM_in m m true (by simp) _ _ _ _ _ _ (w7.drewN m8) (H7.out.1.kept (drawn _ _)) (HI.out.2.kept (grown_trans HF.out.2.2 (grown_trans G6.out (grown_trans H7.out.2 (drawn _ _)))))).mono ?_
        rintro e w8 ⟨rfl, hg8⟩
        have G8 := hid_mk (grown_trans H7.out.2 (grown_trans (drawn w7 m8) hg8))
        have G78 := hid_mk (grown_trans (drawn w7 m8) hg8)
        clear hg8
        refine ⟨_, rfl, at0 w8 (fun W => w8.grownBy W none), ⟨0, rfl⟩, shut_at0 (drawn w8), fun _ h => grown_trans G78.out h, ?_⟩
        repeat (first
          | (refine mix_no1 rfl rfl (fun K hK => ?_); go_simp; refine hK _ _ ?_; clear hK K)
          | (refine mix_rd1 rfl rfl (fun K hK => ?_); apply Exists.intro; refine ⟨fun W hW => ?_, ?_⟩; (go_simp; rfl); (go_simp; refine hK _ _ ?_; clear hK K)))
        refine mix_call rfl rfl 14 #[] (fun W => by go_simp) ?_
        rintro W ⟨m9, rfl⟩
        refine (knowsM_any (w8.drewN m9) (HP.out.kept (grown_trans HF.out.2.2 (grown_trans G6.out (grown_trans G8.out (drawn _ _)))))).mono ?_
        rintro e w9 ⟨rfl, hg9⟩
        have G9 := hid_mk (grown_trans (drawn w8 m9) hg9)
        clear hg9
        refine ⟨_, rfl, at0 w9 (fun W => w9.grownBy W none), ⟨0, rfl⟩, shut_at0 (drawn w9), fun _ h => grown_trans G9.out h, ?_⟩
        repeat (first
          | (refine mix_no1 rfl rfl (fun K hK => ?_); go_simp; refine hK _ _ ?_; clear hK K)
          | (refine mix_rd1 rfl rfl (fun K hK => ?_); apply Exists.intro; refine ⟨fun W hW => ?_, ?_⟩; (go_simp; rfl); (go_simp; refine hK _ _ ?_; clear hK K)))
        refine mix_nil ?_
        rintro W ⟨mz, rfl⟩
        go_wp2_with fail
        go_ret
        exact ⟨rfl, grown_trans HF.out.2.2 (grown_trans G6.out (grown_trans G8.out (grown_trans G9.out (drawn _ mz))))⟩
      · have hs := bytes_ne (show msgL m ≠ msgL n by
          rw [(msgL_ok HR.out.1).1, (msgL_ok HR.out.2).1]
          exact fun e => hmn (msgB_inj HR.out.1 HR.out.2 e))
        have HMN := hid_mk hmn
        clear hmn
        generalize (⟨(msgL m).toArray⟩ : ByteArray) = s1 at *
        generalize (⟨(msgL n).toArray⟩ : ByteArray) = s2 at *
        refine wp_region_mix [(0, true), (1, true), (2, true), (3, true), (4, true), (5, true), (7, true), (6, false), (8, false), (9, true), (10, true), (11, false), (12, true), (13, true)] (at0 w6 (fun W => w6.grownBy W none)) (by kernel_rfl) (by kernel_rfl) rfl (by kernel_rfl) (shut_at0 (drawn w6)) ⟨1, rfl⟩ ?_
        repeat (first
          | (refine mix_no1 rfl rfl (fun K hK => ?_); go_simp; refine hK _ _ ?_; clear hK K)
          | (refine mix_rd1 rfl rfl (fun K hK => ?_); apply Exists.intro; refine ⟨fun W hW => ?_, ?_⟩; (obtain ⟨f1, f2⟩ := HC W hW; go_simp; rfl); (go_simp; refine hK _ _ ?_; clear hK K))
          | (refine mix_rd1 rfl rfl (fun K hK => ?_); apply Exists.intro; refine ⟨fun W hW => ?_, ?_⟩; (have k := HF.out.1.kept (grown_trans G6.out hW); obtain ⟨r8, r9, r10, r11, _⟩ := k.rest; have r0 := k.num 0 _ rfl; have r1 := k.num 1 _ rfl; have r2 := k.num 2 _ rfl; have r3 := k.num 3 _ rfl; have r4 := k.num 4 _ rfl; have r5 := k.num 5 _ rfl; have r6 := k.num 6 _ rfl; have r7 := k.num 7 _ rfl; clear k; go_simp; rfl); (go_simp; refine hK _ _ ?_; clear hK K))
          | (refine mix_rd1 rfl rfl (fun K hK => ?_); apply Exists.intro; refine ⟨fun W hW => ?_, ?_⟩; (have k := HF.out.2.1.kept (grown_trans G6.out hW); obtain ⟨r8, r9, r10, r11, _⟩ := k.rest; have r0 := k.num 0 _ rfl; have r1 := k.num 1 _ rfl; have r2 := k.num 2 _ rfl; have r3 := k.num 3 _ rfl; have r4 := k.num 4 _ rfl; have r5 := k.num 5 _ rfl; have r6 := k.num 6 _ rfl; have r7 := k.num 7 _ rfl; clear k; go_simp; rfl); (go_simp; refine hK _ _ ?_; clear hK K)))
        refine mix_call rfl rfl 9 #[.agg (msgCells m (.slice a1 n1 c1) (.slice a2 n2 c2) (.slice a3 n3 c3))] (fun W => by unfold msgCells; go_simp) ?_
        rintro W ⟨m7, rfl⟩
        refine (ownM_in m _ _ _ (w6.drewN m7) (HI.out.1.kept (grown_trans HF.out.2.2 (grown_trans G6.out (drawn _ _))))).mono ?_
        rintro e w7 ⟨e7, s7, t7, rfl, hi7, hg7⟩
        have H7 := hid_mk (And.intro hi7 (grown_trans (drawn w6 m7) hg7))
        clear hi7 hg7
        refine ⟨_, rfl, at0 w7 (fun W => w7.grownBy W none), ⟨0, rfl⟩, shut_at0 (drawn w7), fun _ h => grown_trans H7.out.2 h, ?_⟩
        refine mix_call rfl rfl 13 #[.agg (msgCells m e7 s7 t7), .agg (msgCells n (.slice b1 k1 d1) (.slice b2 k2 d2) (.slice b3 k3 d3))] (fun W => by unfold msgCells; go_simp) ?_
        rintro W ⟨m8, rfl⟩
        refine (sameM_in m n false (by simpa using HMN.out) _ _ _ _ _ _ (w7.drewN m8) (H7.out.1.kept (drawn _ _)) (HI.out.2.kept (grown_trans HF.out.2.2 (grown_trans G6.out (grown_trans H7.out.2 (drawn _ _)))))).mono ?_
        rintro e w8 ⟨rfl, hg8⟩
        have G8 := hid_mk (grown_trans H7.out.2 (grown_trans (drawn w7 m8) hg8))
        have G78 := hid_mk (grown_trans (drawn w7 m8) hg8)
        clear hg8
        refine ⟨_, rfl, at0 w8 (fun W => w8.grownBy W none), ⟨0, rfl⟩, shut_at0 (drawn w8), fun _ h => grown_trans G78.out h, ?_⟩
        repeat (first
          | (refine mix_no1 rfl rfl (fun K hK => ?_); go_simp; refine hK _ _ ?_; clear hK K)
          | (refine mix_rd1 rfl rfl (fun K hK => ?_); apply Exists.intro; refine ⟨fun W hW => ?_, ?_⟩; (go_simp; rfl); (go_simp; refine hK _ _ ?_; clear hK K)))
        refine mix_call rfl rfl 14 #[] (fun W => by go_simp) ?_
        rintro W ⟨m9, rfl⟩
        refine (knowsM_any (w8.drewN m9) (HP.out.kept (grown_trans HF.out.2.2 (grown_trans G6.out (grown_trans G8.out (drawn _ _)))))).mono ?_
        rintro e w9 ⟨rfl, hg9⟩
        have G9 := hid_mk (grown_trans (drawn w8 m9) hg9)
        clear hg9
        refine ⟨_, rfl, at0 w9 (fun W => w9.grownBy W none), ⟨0, rfl⟩, shut_at0 (drawn w9), fun _ h => grown_trans G9.out h, ?_⟩
        repeat (first
          | (refine mix_no1 rfl rfl (fun K hK => ?_); go_simp; refine hK _ _ ?_; clear hK K)
          | (refine mix_rd1 rfl rfl (fun K hK => ?_); apply Exists.intro; refine ⟨fun W hW => ?_, ?_⟩; (go_simp; rfl); (go_simp; refine hK _ _ ?_; clear hK K)))
        refine mix_nil ?_
        rintro W ⟨mz, rfl⟩
        go_wp2_with fail
        go_ret
        exact ⟨rfl, grown_trans HF.out.2.2 (grown_trans G6.out (grown_trans G8.out (grown_trans G9.out (drawn _ mz))))⟩

end Go.Proofs.YtliefofdlpljaaaDoor
