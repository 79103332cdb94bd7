/- A reader: the document's Bytes. -/
import Derived.Test.YtliefofdlpljaaaDoorRrD
import Derived.Test.YtliefofdlpljaaaDoorMixB
import Derived.Deep.DeepCutAuto
namespace Go.Proofs.YtliefofdlpljaaaDoor
open Go.RowKit Go.Maps
set_option linter.unusedVariables false
set_option linter.unusedSimpArgs false

theorem readB_of (s : St) : readB s = if (readN s).2.e ≠ 0 then ([], ⟨s.rest, (readN s).2.e⟩) else if 1048576 < (readN s).1 then ([], ⟨s.rest, 21⟩)
    else if (readN s).2.rest.length < (readN s).1 then ([], ⟨s.rest, 20⟩) else ((readN s).2.rest.take (readN s).1, ⟨(readN s).2.rest.drop (readN s).1, 0⟩) := by
  by_cases he : s.e ≠ 0
  · rw [readB_bad he, readN_bad he, if_pos he]
  · have he0 : s.e = 0 := by omega
    rw [readB_ok he0, readN_ok he0]
    simp only
    unfold bytR
    have hs := numR_size s.rest
    by_cases h1 : (numR s.rest).2.2 ≠ 0
    · rw [if_pos h1, if_pos h1]; rfl
    · rw [if_neg h1, if_neg h1]
      by_cases h2 : 1048576 < (numR s.rest).1
      · rw [if_pos h2, if_pos h2]; rfl
      · rw [if_neg h2, if_neg h2, List.length_drop]
        by_cases h3 : s.rest.length < (numR s.rest).2.1 + (numR s.rest).1
        · rw [if_pos h3, if_pos (by omega)]; rfl
        · rw [if_neg h3, if_neg (by omega)]
          simp only [List.drop_drop]

def BytPost (M N b : Nat) (s : St) (w : World) (e : Ending) (w' : World) : Prop := ∃ v', e = .returned v' ∧ Own w' w.heap.size v' (readB s).1 ∧ Rr w' M N b (readB s).2 ∧ w.grownBy w' (some b)

theorem wrap_id_z (z : Int) (h1 : -9223372036854775808 ≤ z) (h2 : z ≤ 9223372036854775807) : IntKind.i64.wrap z = z := by rw [IntKind.wrap_i64]; omega

/-- What a store into the reader leaves, told by what lies in it. -/
theorem RX.store {w W : World} {M N b k e : Nat} {bv : Value} {B : List UInt8} (h : RX w M N b bv B k e) (hg : w.grownBy W (some b)) (k' e' : Nat) (hW : W.heap[b]? = some (.cells #[bv, .int .i64 k', .int .i64 e'] 99 (0, 0))) (hk : k' ≤ B.length) : RX W M N b bv B k' e' := by
  have := rr_store h.lo h.hi h.blk h.byt h.small hg k' e' hW hk
  refine ⟨h.lo, h.hi, hW, ⟨?_, h.byt.inb⟩, hk, h.small⟩
  obtain ⟨bv2, B2, k2, hx, _⟩ := this.open
  have hbv : bv2 = bv := by
    have h1 := (rr_cells hx.blk).1
    have h2 := (rr_cells hW).1
    rw [h1] at h2; injection h2
  subst hbv
  have hB : B = B2 := byt_same h.byt.byt hx.byt.byt (fun r off hu x hx' => by
    by_cases hrb : some r = some b
    · exact (rx_ne h r hrb off hu).elim
    · obtain ⟨u, hu⟩ := hu
      have := hg.cell hu hrb
      rw [this] at hx'
      rw [hu]; exact hx')
  rw [hB]; exact hx.byt.byt

/-- The ways that fail. -/
theorem byt_fail {w W : World} {M N b k k1 e1 : Nat} {bv : Value} {B : List UInt8} {s : St} (hr : s.rest = B.drop k) (hk : k ≤ B.length) (h : RX W M N b bv B k1 e1) (hg : w.grownBy W (some b)) (er : Nat) (hb : readB s = ([], ⟨s.rest, er⟩)) (W' : World) (hg' : W.grownBy W' (some b)) (hW : W'.heap[b]? = some (.cells #[bv, .int .i64 k, .int .i64 er] 99 (0, 0))) :
    BytPost M N b s w (.returned (.slice none 0 0)) W' := by
  refine ⟨_, rfl, ?_, ?_, grown_trans hg hg'⟩
  · rw [hb]; exact World.ownsRow_nil _ _ _ _
  · rw [hb, hr]; exact (h.store hg' k er hW hk).shut

set_option maxHeartbeats 2000000 in
theorem rbyt_any (M N b : Nat) (s : St) (w : World) (h : Rr w M N b s) (hNw : N ≤ w.heap.size) : Calls Tryd.prog 37 #[.pointer (some ⟨b, 0, none⟩)] w (BytPost M N b s w) := by
  obtain ⟨bv, B, k, hx, hr⟩ := h.open
  have HNum := hid_mk (rnum_x M N b k bv B s.e w hx)
  rw [← hr] at HNum
  have es : (⟨s.rest, s.e⟩ : St) = s := rfl
  simp only [es] at HNum
  have HO := hid_mk (readB_of s)
  have hlt := readN_lt s
  have hkB := hx.le
  have hBs := hx.small
  obtain ⟨c0, c1, c2, _⟩ := rr_cells hx.blk
  have HX := hid_mk hx
  have HR := hid_mk hr
  have HW := hid_mk hNw
  clear hx hr h hNw es
  generalize (readN s).1 = n at *
  generalize (readN s).2 = s1 at *
  obtain ⟨r1, e1⟩ := s1
  simp only at HO HNum
  go_enter Tryd.func37, Tryd.ntmps37
  go_wp2_with fail
  refine HNum.out.mono ?_
  rintro e w1 ⟨rfl, hg1, k1, hk1, hr1, hx1⟩
  obtain ⟨d0, d1, d2, df⟩ := rr_cells hx1.blk
  have f1 := df 1
  have f2 := df 2
  have hkB1 := hx1.le
  have HX1 := hid_mk hx1
  have H1 := hid_mk (And.intro hg1 (And.intro hk1 hr1))
  clear c0 c1 c2 df hx1 hg1 hk1 hr1 HNum
  have bk := HX1.out.blk
  have HBK := hid_mk bk
  clear bk
  by_cases he : e1 ≠ 0
  · have he' : ((e1 : Int) == 0) = false := by simp; omega
    have FIN := hid_mk (byt_fail HR.out hkB HX1.out H1.out.1 e1 (by rw [HO.out, if_pos he]) (w1.setCell ⟨b, 1, none⟩ (.int .i64 k)) (grown_setCell _ _ _ _) (rr_set1 HBK.out _))
    go_wp2
    go_ret
    exact FIN.out
  · have he0 : e1 = 0 := by omega
    subst he0
    by_cases hn : 1048576 < n
    · have hnI : 1048576 < (n : Int) := by omega
      have FIN := hid_mk (byt_fail HR.out hkB HX1.out H1.out.1 21 (by rw [HO.out, if_neg he, if_pos hn]) ((w1.setCell ⟨b, 2, none⟩ (.int .i64 21)).setCell ⟨b, 1, none⟩ (.int .i64 k)) (grown_trans (grown_setCell _ _ _ _) (grown_setCell _ _ _ _)) (rr_set1 (rr_set2 HBK.out _) _))
      obtain ⟨g0, g1, g2, gf⟩ := rr_cells (rr_set2 HBK.out (.int .i64 21))
      have gf1 := gf 1
      clear gf
      go_wp2
      go_ret
      exact FIN.out
    · have hnI : ¬ (1048576 < (n : Int)) := by omega
      have HLf := hid_mk (rleft_any M N b _ w1 HX1.out.shut)
      rw [H1.out.2.2] at HLf
      simp only at HLf
      by_cases hl : r1.length < n
      · have hlI : (r1.length : Int) < (n : Int) := by omega
        have FIN := hid_mk (fun m => byt_fail HR.out hkB HX1.out H1.out.1 20 (by rw [HO.out, if_neg he, if_neg hn, if_pos hl]) (((w1.drewN m).setCell ⟨b, 2, none⟩ (.int .i64 20)).setCell ⟨b, 1, none⟩ (.int .i64 k)) (grown_trans (grown_drewN _ _ _) (grown_trans (grown_setCell _ _ _ _) (grown_setCell _ _ _ _))) (rr_set1 (rr_set2 (W := w1.drewN m) HBK.out _) _))
        have GG := hid_mk (fun m => rr_cells (rr_set2 (W := w1.drewN m) HBK.out (.int .i64 20)))
        generalize r1.length = rl at *
        go_wp2_with (go_at_call 62; refine HLf.out.mono ?_; rintro e wx ⟨rfl, m, rfl⟩; obtain ⟨g0, g1, g2, gf⟩ := GG.out m; have gf1 := gf 1; clear gf)
        go_ret
        exact FIN.out m
      · have hlI : ¬ ((r1.length : Int) < (n : Int)) := by omega
        have hkn : k1 + n ≤ B.length := by
          have := congrArg List.length H1.out.2.2
          rw [List.length_drop] at this
          omega
        have GG := hid_mk (fun m => rr_cells (rr_set1 (W := w1.drewN m) HBK.out (.int .i64 ((k1 : Int) + n))))
        have HX2 : Hid (∀ m, RX ((w1.drewN m).setCell ⟨b, 1, none⟩ (.int .i64 ((k1 : Int) + n))) M N b bv B (k1 + n) 0) := hid_mk (fun m =>
          HX1.out.store (grown_trans (grown_drewN _ m _) (grown_setCell _ _ _ _)) (k1 + n) 0 (by
            have := rr_set1 (W := w1.drewN m) HBK.out (.int .i64 ((k1 : Int) + n))
            rw [show ((k1 + n : Nat) : Int) = (k1 : Int) + n by omega]
            exact this) hkn)
        have HRB := hid_mk (show readB s = (r1.take n, ⟨r1.drop n, 0⟩) by rw [HO.out, if_neg he, if_neg hn, if_neg hl])
        generalize hrl : r1.length = rl at HLf hlI
        clear hrl
        go_upto_region 11 with (go_at_call 62; refine HLf.out.mono ?_; rintro e wx ⟨rfl, m, rfl⟩; obtain ⟨g0, g1, g2, gf⟩ := GG.out m; have gf1 := gf 1; clear gf)
        have hx2 := HX2.out m
        have G2 := hid_mk (show w1.grownBy ((w1.drewN m).setCell ⟨b, 1, none⟩ (.int .i64 ((k1 : Int) + n))) (some b) from grown_trans (grown_drewN _ m _) (grown_setCell _ _ _ _))
        clear g0 g1 g2 gf1 d0 d1 d2 f1 f2
        generalize (w1.drewN m).setCell ⟨b, 1, none⟩ (.int .i64 ((k1 : Int) + n)) = W2 at *
        obtain ⟨av, cv, rfl⟩ := hx2.byt.byt.len
        obtain ⟨a', cap', hsl0, hbs⟩ := hx2.byt.byt.lh k1 (k1 + n) (by omega) hkn
        rw [show k1 + n - k1 = n by omega] at hsl0 hbs
        have hsl : ∀ w', (Instr.slice 24 (.slice av B.length cv) (some (.int .i64 k1)) (some (.int .i64 ((k1 : Int) + n))) none).run Tryd.prog w' = .ok (.slice a' n cap') w' := fun w' => by
          rw [show ((k1 : Int) + n) = ((k1 + n : Nat) : Int) by omega]; exact hsl0 w'
        have HCL : ∀ W, W2.grownBy W none → W.cell? ⟨b, 0, none⟩ = some (.slice av B.length cv) ∧ W.cell? ⟨b, 1, none⟩ = some (.int .i64 ((k1 : Int) + n)) := fun W hW => by
          have hh := (hW.block b (Array.getElem?_eq_some_iff.1 hx2.blk).1 (by simp)).trans hx2.blk
          refine ⟨(rr_cells hh).1, ?_⟩
          rw [(rr_cells hh).2.1]; simp
        have HBS := hid_mk hbs
        have HX2 := hid_mk hx2
        have hsw := wrap_id_z (k1 : Int) (by omega) (by omega)
        have hnb := hid_mk hkn
        clear hsl0 hbs hx2
        refine wp_region_mix [(1, true), (2, true), (3, true), (4, true), (5, true), (6, true), (7, true), (8, true), (9, true), (10, true), (11, true), (12, true), (13, true), (14, true), (15, true), (0, false), (16, false), (17, true)] (at0 W2 (fun W => W2.grownBy W none)) (by kernel_rfl) (by kernel_rfl) rfl (by kernel_rfl) (shut_at0 (fun m => grown_drewN _ m none)) ⟨1, rfl⟩ ?_
        repeat (refine mix_rd1 rfl rfl (fun K hK => ?_); apply Exists.intro; refine ⟨fun W hW => ?_, ?_⟩; (obtain ⟨q0, q1⟩ := HCL W hW; go_simp; rfl); (go_simp; refine hK _ _ ?_; clear hK K))
        refine mix_do rfl rfl ?_
        rintro W ⟨m3, rfl⟩
        refine ⟨.slice (some ⟨W2.heap.size, 0, none⟩) 0 0, (W2.drewN m3).alloc (.cells #[] 5), by go_simp, at0 ((W2.drewN m3).alloc (.cells #[] 5)) (fun W => W2.grownBy W none), ⟨0, rfl⟩, shut_at0 (fun m => grown_trans (grown_trans (grown_drewN _ m3 none) (World.grownBy_alloc _ _ none)) (grown_drewN _ m none)), fun _ h => h, ?_⟩
        have O4 := hid_mk (own_empty (W2.drewN m3))
        have G4 := hid_mk (show (W2.drewN m3).grownBy ((W2.drewN m3).alloc (.cells #[] 5)) none from World.grownBy_alloc _ _ none)
        have S4 := hid_mk (show (W2.drewN m3).heap.size = W2.heap.size from rfl)
        generalize (W2.drewN m3).alloc (.cells #[] 5) = w4 at *
        refine mix_append (W2.drewN m3) w4 _ rfl rfl (.tmp 55) (.tmp 70) rfl G4.out (.slice (some ⟨W2.heap.size, 0, none⟩) 0 0) [] rfl O4.out ((B.take (k1 + n)).drop k1) (.slice a' n cap') rfl (HBS.out.kept (grown_trans (grown_drewN _ m3 none) G4.out)) (by simp; omega) ?_
        intro a5 c5 w5 P5
        have e5 : ([] : List UInt8).length + ((B.take (k1 + n)).drop k1).length = n := by simp; omega
        have e6 : [] ++ (B.take (k1 + n)).drop k1 = r1.take n := by rw [← H1.out.2.2]; simp [List.take_drop]
        rw [e5, e6] at P5
        rw [e5]
        have G5 := hid_mk (show W2.grownBy w5 none from grown_trans (grown_drewN _ m3 none) P5.out.2.1)
        refine ⟨at0 w5 (fun W => W2.grownBy W none), ⟨0, rfl⟩, shut_at0 (fun m => grown_trans G5.out (grown_drewN _ m none)), fun _ h => h, ?_⟩
        clear e5 e6
        repeat (refine mix_rd1 rfl rfl (fun K hK => ?_); apply Exists.intro; refine ⟨fun W hW => ?_, ?_⟩; (go_simp; rfl); (go_simp; refine hK _ _ ?_; clear hK K))
        refine mix_nil ?_
        rintro W ⟨m6, rfl⟩
        go_wp2_with fail
        go_ret
        refine ⟨_, rfl, ?_, ?_, ?_⟩
        · rw [HRB.out]
          exact (P5.out.1.kept (grown_drewN _ m6 none) (.inl rfl)).base (Nat.le_trans H1.out.1.size (by have := G2.out.size; rw [S4.out]; exact this))
        · rw [HRB.out]
          have := HX2.out.shut.kept (grown_trans G5.out (grown_drewN _ m6 none)) (fun r hr => by cases hr)
          rw [show B.drop (k1 + n) = r1.drop n by rw [← H1.out.2.2, List.drop_drop]] at this
          exact this
        · exact grown_trans H1.out.1 (grown_trans G2.out (grown_any (grown_trans G5.out (grown_drewN _ m6 none)) _))

end Go.Proofs.YtliefofdlpljaaaDoor
