/- WireReads: its walk. -/
import Derived.Test.YtppnmhdmpgdieaaReadsA
namespace Go.Proofs.Ytppnmhdmpgdieaa
open Go.RowKit Go.Maps
set_option linter.unusedVariables false
set_option linter.unusedSimpArgs false

theorem readB_small (s : St) : (readB s).1.length ≤ 1048576 := by
  unfold readB
  split
  · simp
  · simp only
    by_cases hz : (bytR s.rest).2.2 = 0
    · exact (bytR_get (l := s.rest) (d := (bytR s.rest).1) (s := (bytR s.rest).2.1) (by rw [← hz])).2.2
    · rw [(bytR_bad hz).1]; simp
theorem text_all {w : World} {v : Value} {l : List UInt8} (h : Byt w v l) : ∀ W, w.grownBy W none → (convert 22 9 v).run Try.prog W = .ok (.string ⟨l.toArray⟩) W := fun W hW => (h.kept hW).text

set_option maxRecDepth 100000 in
set_option maxHeartbeats 8000000 in
theorem reads_any (v : Value) (d : List UInt8) (lv : Value) (l : List Bool) (w : World) (h : Byt w v d) (hl : BoolsR w lv l) (hd : d.length + 2 ≤ 140737488355328) (hll : l.length ≤ 140737488355328) :
    Calls Try.prog 6 #[v, lv] w fun e w' => e = .returned (.bool true) ∧ w.grownBy w' none := by
  obtain ⟨av, cv, rfl⟩ := h.len
  obtain ⟨la, lc, rfl⟩ := hl.len
  have HB := hid_mk h
  have HL := hid_mk hl
  have hd' : d.length ≤ 140737488355328 := by omega
  clear h hl
  go_enter Try.func6, Try.ntmps6
  go_wp2_with fail
  refine (lent_any _ d w HB.out hd).mono ?_
  rintro e w1 ⟨g, cap, rfl, ho1, hg1⟩
  obtain ⟨hb1, _, _, hcap⟩ := lent_byt ho1
  have hglt := (lent_blk ho1).1
  have hgw1 : g < w1.heap.size := by
    rcases ho1.2 with ⟨e, _⟩ | ⟨g', cap', cur, e, _, hh, _⟩
    · cases e
    · injection e with e1 _ _
      injection e1 with e1
      injection e1 with e1
      subst e1
      exact (Array.getElem?_eq_some_iff.1 hh).1
  have hsore := ho1.sore (by simp)
  have H1 := hid_mk (And.intro hg1 (And.intro hb1 (And.intro hglt (And.intro hgw1 hsore))))
  clear ho1 hg1 hb1 hglt hgw1 hsore
  go_wp2_with fail
  refine (new_any _ d w1 H1.out.2.1 hd').mono ?_
  rintro e w2 ⟨b1, rfl, hr2, hg2⟩
  have H2 := hid_mk (And.intro hr2 hg2)
  clear hr2 hg2
  go_wp2_with fail
  refine (rnew_any _ d w2 (HB.out.kept (grown_trans H1.out.1 H2.out.2)) hd').mono ?_
  rintro e w3 ⟨b2, rfl, hr3, hg3⟩
  have HBo : Hid (Both w w3 w1.heap.size w2.heap.size b1 w2.heap.size w3.heap.size b2 ⟨d, 0⟩) := hid_mk ⟨H2.out.1.kept hg3 (fun r hr => by cases hr), hr3, grown_trans H1.out.1 (grown_trans H2.out.2 hg3), Nat.le_refl _, H1.out.1.size, Nat.le_refl _, hd'⟩
  have HS : Hid (Sore w3 g (d.length + 2) ∧ g < w1.heap.size ∧ w.heap.size ≤ g) := hid_mk ⟨H1.out.2.2.2.2.kept (grown_trans H2.out.2 hg3) (by simp), H1.out.2.2.2.1, H1.out.2.2.1⟩
  clear hr3 hg3 H1 H2
  obtain ⟨M1, hM1⟩ : ∃ M1, M1 = w1.heap.size := ⟨_, rfl⟩
  obtain ⟨M2, hM2⟩ : ∃ M2, M2 = w2.heap.size := ⟨_, rfl⟩
  obtain ⟨N2, hN2⟩ : ∃ N2, N2 = w3.heap.size := ⟨_, rfl⟩
  rw [← hM1, ← hM2, ← hN2] at HBo
  rw [← hM1] at HS
  clear hM1 hM2 hN2
  go_wp2_with (go_at_call 17; refine (knows_any _).mono ?_; rintro e w4 ⟨rfl, hg4⟩; have HBo4 := hid_mk (HBo.out.kept hg4); have HS4 := hid_mk (And.intro (HS.out.1.kept hg4 (by simp)) HS.out.2); clear hg4 HBo HS)
  go_loopg [8] d.length (fun k iv W => ∃ i : Nat, i ≤ d.length ∧ k = d.length - i ∧ iv = .int .i64 i ∧ Hid (Both w W M1 M2 b1 M2 N2 b2 ⟨d, 0⟩ ∧ Sore W g (d.length + 2)))
  case atStart => exact ⟨0, Nat.zero_le _, rfl, rfl, hid_mk ⟨HBo4.out, HS4.out.1⟩⟩
  case round =>
    obtain ⟨i, hi, hgk, rfl, H⟩ := hrel
    by_cases hlt : i < d.length
    · obtain ⟨⟨z, hcell⟩, hfz⟩ := H.out.2.cell i (by omega)
      have hiI : (i : Int) < (d.length : Int) := by omega
      go_wp2
      go_roundg (d.length - (i + 1))
      case measure => omega
      case rel =>
        refine ⟨i + 1, by omega, rfl, by go_num, hid_mk ⟨?_, H.out.2.set i _⟩⟩
        have hb := H.out.1
        have h1 := HS4.out.2
        exact ⟨hb.rd.kept (grown_setCell _ g i _) (fun r hr => by cases hr; left; omega), hb.rr.kept (grown_setCell _ g i _) (fun r hr => by cases hr; left; have := hb.mid; have := hb.rd.lo; have := hb.rd.hi; omega), grown_new hb.gr (grown_setCell _ g i _) h1.2, hb.mid, hb.lo, by have := hb.hi; simpa [World.setCell] using this, hb.small⟩
    · have hie : i = d.length := by omega
      subst hie
      have HBo5 := hid_mk H.out.1
      clear H hlt
      go_wp2_with fail
      go_loopg [9] l.length (fun k iv W => ∃ i : Nat, i ≤ l.length ∧ k = l.length - i ∧ iv = .int .i64 i ∧ Hid (∃ s, Both w W M1 M2 b1 M2 N2 b2 s))
      case atStart => exact ⟨0, Nat.zero_le _, rfl, rfl, hid_mk ⟨_, HBo5.out⟩⟩
      case round =>
        obtain ⟨i, hi, hgk, rfl, H⟩ := hrel
        obtain ⟨s, hs⟩ := H.out
        have B := hid_mk hs
        clear H hs
        by_cases hlt : i < l.length
        · obtain ⟨lb, loff, lcap, e1, _, hlc⟩ := HL.out.at (by omega)
          cases e1
          have hcell := B.out.gr.cell (hlc i l[i] (by simp [hlt])) (by simp)
          have hiI : (i : Int) < (l.length : Int) := by omega
          generalize l[i] = x at *
          clear hlc
          go_upto_if 47 with fail
          go_cut [9] (fun iv W => iv = .int .i64 i ∧ Hid (∃ s, Both w W M1 M2 b1 M2 N2 b2 s))
          case first =>
            clear hcell
            cases x with
            | false =>
              go_wp2_with fail
              refine (num_rd M1 M2 b1 s wr B.out.rd B.out.small).mono ?_
              rintro e w6 ⟨rfl, hr6, hg6⟩
              have H6 := hid_mk (And.intro hr6 hg6)
              clear hr6 hg6
              go_wp2_with fail
              refine (rnum_any M2 N2 b2 s w6 (B.out.rr1 H6.out.2)).mono ?_
              rintro e w7 ⟨rfl, hr7, hg7, _⟩
              have H7 := hid_mk (B.out.step H6.out.1 H6.out.2 hr7 hg7 (readN_rest s))
              clear hr7 hg7
              generalize (readN s).1 = rn at *
              go_wp2_with fail
              go_meet
              case rel => exact ⟨rfl, hid_mk ⟨_, H7.out⟩⟩
            | true =>
              go_wp2_with fail
              refine (byt_rd M1 M2 b1 s wr B.out.rd (Nat.le_trans B.out.mid (Nat.le_trans (Nat.le_of_lt (Nat.lt_of_le_of_lt B.out.rr.lo B.out.rr.hi)) B.out.hi)) B.out.small).mono ?_
              rintro e w6 ⟨v6, rfl, ho6, hr6, hg6⟩
              obtain ⟨a6, c6, rfl⟩ := ho6.len
              have H6 := hid_mk (And.intro ho6 (And.intro hr6 hg6))
              have HQ := hid_mk (fun m => rbyt_any M2 N2 b2 s (w6.drewN m) ((B.out.rr1 hg6).kept (grown_drewN _ m none) (fun r hr => by cases hr)) (Nat.le_trans B.out.hi hg6.size))
              clear ho6 hr6 hg6
              have hb2 := hid_mk (show b2 < wr.heap.size by have := B.out.rr.hi; have := B.out.hi; omega)
              obtain ⟨t6, ht6⟩ : ∃ t6, t6 = (readB s).1 := ⟨_, rfl⟩
              have H6t : Hid (Own w6 wr.heap.size (.slice a6 t6.length c6) t6) := by rw [ht6]; exact hid_mk H6.out.1
              have HE6 := hid_mk ht6
              rw [← ht6]
              clear ht6
              have K6 : ∀ W, w6.grownBy W (some b2) → (convert 22 9 (.slice a6 t6.length c6)).run Try.prog W = .ok (.string ⟨t6.toArray⟩) W := fun W hW => (H6t.out.kept_low hW hb2.out).byt.text
              generalize hn6 : t6.length = n6 at *
              have HN6 := hid_mk hn6
              clear hn6
              go_upto_region 15 with fail
              refine wp_region_mix [(0, true), (1, true), (2, true), (3, false), (4, true), (5, true)] (at0 w6 (fun W => w6.grownBy W (some b2))) (by kernel_rfl) (by kernel_rfl) rfl (by kernel_rfl) (shut_at0 (fun m => grown_drewN _ m _)) ⟨1, rfl⟩ ?_
              repeat (refine mix_rd1 rfl rfl (fun K hK => ?_); apply Exists.intro; refine ⟨fun W hW => ?_, ?_⟩; (have k6 := K6 W hW; go_simp; rfl); (go_simp; refine hK _ _ ?_; clear hK K))
              refine mix_call rfl rfl 32 #[.pointer (some ⟨b2, 0, none⟩)] (fun W => by go_simp) ?_
              rintro W ⟨m, rfl⟩
              refine (HQ.out m).mono ?_
              rintro e w7 ⟨v7, rfl, ho7, hr7, hg7⟩
              obtain ⟨a7, c7, rfl⟩ := ho7.len
              rw [← HE6.out] at ho7 ⊢
              have H7 := hid_mk (B.out.step H6.out.2.1 H6.out.2.2 hr7 (grown_trans (grown_drewN w6 m _) hg7) (readB_rest s))
              have G7 := hid_mk (grown_trans (grown_drewN w6 m (some b2)) hg7)
              have O7 := hid_mk (H6t.out.kept_low G7.out hb2.out)
              have K7 := text_all ho7.byt
              refine ⟨_, rfl, at0 w7 (fun W => w7.grownBy W none), ⟨0, rfl⟩, shut_at0 (fun m => grown_drewN _ m none), fun _ h => grown_trans G7.out (grown_any h _), ?_⟩
              clear ho7 hr7 hg7 K6
              repeat (refine mix_rd1 rfl rfl (fun K hK => ?_); apply Exists.intro; refine ⟨fun W hW => ?_, ?_⟩; (have k7 := K7 W hW; go_simp; rfl); (go_simp; refine hK _ _ ?_; clear hK K))
              refine mix_nil ?_
              rintro W ⟨m8, rfl⟩
              have H8 := hid_mk (H7.out.kept (grown_drewN _ m8 none))
              have O8 := hid_mk (O7.out.kept (grown_drewN _ m8 none) (.inl rfl))
              generalize w7.drewN m8 = w8 at *
              clear K7 H7 O7 G7
              have hn6 : n6 ≤ 1048576 := by have := readB_small s; rw [← HE6.out, HN6.out] at this; exact this
              by_cases hz : n6 = 0
              · subst hz
                go_wp2_with fail
                go_loopg [11] 0 (fun k kv W => kv = .int .i64 0 ∧ Hid (Both w W M1 M2 b1 M2 N2 b2 (readB s).2))
                case atStart => exact ⟨rfl, H8⟩
                case round =>
                  obtain ⟨rfl, H9⟩ := hrel
                  go_wp2_with fail
                  go_meet
                  case rel => exact ⟨rfl, hid_mk ⟨_, H9.out⟩⟩
              · obtain ⟨vb, vcap, cur, ev, hvb, _⟩ := O8.out.at (by have := HN6.out; omega)
                injection ev with ev1 ev2 ev3
                subst ev1
                have S8 : Hid (Sore w8 vb n6 ∧ N2 ≤ vb) := hid_mk ⟨O8.out.sore (by rw [HN6.out]; omega), Nat.le_trans B.out.hi hvb⟩
                clear ev2 ev3
                go_wp2_with fail
                go_loopg [11] n6 (fun k kv W => ∃ j : Nat, j ≤ n6 ∧ k = n6 - j ∧ kv = .int .i64 j ∧ Hid (Both w W M1 M2 b1 M2 N2 b2 (readB s).2 ∧ Sore W vb n6))
                case atStart => exact ⟨0, Nat.zero_le _, rfl, rfl, hid_mk ⟨H8.out, S8.out.1⟩⟩
                case round =>
                  obtain ⟨j, hj, hgj, rfl, H9⟩ := hrel
                  by_cases hjn : j < n6
                  · obtain ⟨⟨z, hcell9⟩, hfz9⟩ := H9.out.2.cell j hjn
                    have hjI : (j : Int) < (n6 : Int) := by omega
                    go_wp2_with fail
                    go_roundg (n6 - (j + 1))
                    case measure => omega
                    case rel => exact ⟨j + 1, by omega, rfl, by go_num, hid_mk ⟨H9.out.1.kept_new (grown_setCell _ vb j _) S8.out.2, H9.out.2.set j _⟩⟩
                  · have hje : j = n6 := by omega
                    subst hje
                    go_wp2_with fail
                    go_meet
                    case rel => exact ⟨rfl, hid_mk ⟨_, H9.out.1⟩⟩
          case rest =>
            obtain ⟨rfl, H9⟩ := hcut
            obtain ⟨s9, h9⟩ := H9.out
            have B9 := hid_mk h9
            clear H9 h9 B
            have C1 := hid_mk (fun m => left_rd M1 M2 b1 s9 (wc.drewN m) (B9.out.rd.kept (grown_drewN _ m none) (fun r hr => by cases hr)))
            have C2 := hid_mk (fun m => rleft_any M2 N2 b2 s9 (wc.drewN m) (B9.out.rr.kept (grown_drewN _ m none) (fun r hr => by cases hr)))
            have C3 := hid_mk (fun m => err_rd M1 M2 b1 s9 (wc.drewN m) (B9.out.rd.kept (grown_drewN _ m none) (fun r hr => by cases hr)))
            have C4 := hid_mk (fun m => end_rd M1 M2 b1 s9 (wc.drewN m) (B9.out.rd.kept (grown_drewN _ m none) (fun r hr => by cases hr)))
            have C5 := hid_mk (fun m => rend_any M2 N2 b2 s9 (wc.drewN m) (B9.out.rr.kept (grown_drewN _ m none) (fun r hr => by cases hr)))
            obtain ⟨bv, BB, kk, hxx, _⟩ := B9.out.rr.open
            obtain ⟨_, _, ce, _⟩ := rr_cells hxx.blk
            clear hxx
            generalize s9.rest.length = rl at *
            generalize endE s9 = en at *
            obtain ⟨e9, he9⟩ : ∃ e9, e9 = s9.e := ⟨_, rfl⟩
            rw [← he9] at ce C3
            clear he9
            go_wp2_with fail
            go_quiet ((first
              | (go_at_call 35; exact Calls.quiet_of_same (C1.out _))
              | (go_at_call 36; exact Calls.quiet_of (C2.out _))
              | (go_at_call 37; exact Calls.quiet_of_same (C3.out _))
              | (go_at_call 14; exact Calls.quiet_of_same (num_any _ _))
              | (go_at_call 38; exact Calls.quiet_of_same (C4.out _))
              | (go_at_call 39; exact Calls.quiet_of (C5.out _))))
            go_wp2_with fail
            go_roundg (l.length - (i + 1))
            case measure => omega
            case rel => exact ⟨i + 1, by omega, rfl, by go_num, hid_mk ⟨_, B9.out.kept (grown_drewN _ nq none)⟩⟩
        · have hie : i = l.length := by omega
          subst hie
          go_wp2_with fail
          go_ret
          exact ⟨rfl, B.out.gr⟩

end Go.Proofs.Ytppnmhdmpgdieaa
