/- ProgressForward: the walk. -/
import Derived.Test.YtinpcpojadcegaaPrK
import Derived.Test.YtinpcpojadcegaaPrOp
namespace Go.Proofs.Ytinpcpojadcegaa.W
open Go.RowKit Go.Maps
set_option linter.unusedVariables false
set_option linter.unusedSimpArgs false
set_option maxRecDepth 100000
attribute [local go_sem] Oper.semAt_some

theorem heard_fwd {L n m : Int} {yes : Bool} {at_ : Int} (hL : 0 ≤ L ∧ L ≤ 999) (hm : 0 ≤ m ∧ m ≤ L) (hn : m < n ∧ n ≤ L + 1) :
    m ≤ heardM m yes at_ L ∧ heardM m yes at_ L ≤ L ∧ heardM m yes at_ L < heardN n m yes at_ L ∧ heardN n m yes at_ L ≤ L + 1 ∧ (yes = true → 0 ≤ at_ → at_ ≤ L → at_ ≤ heardM m yes at_ L) := by
  cases ht : tellsB yes at_ L with
  | false =>
    obtain ⟨e1, e2⟩ := heard_no (n := n) (m := m) ht
    rw [e1, e2]
    refine ⟨by omega, by omega, by omega, by omega, fun hy h1 h2 => ?_⟩
    subst hy
    rw [tells_true h1 h2] at ht
    cases ht
  | true =>
    obtain ⟨h1, h2, h3⟩ := tells_at ht
    unfold heardN heardM
    rw [ht]
    cases yes with
    | false =>
      simp only [if_true, Bool.false_eq_true, if_false]
      rw [behZ_low (by omega)]
      refine ⟨by omega, by omega, by omega, by omega, fun h => by cases h⟩
    | true =>
      have := h3 rfl
      simp only [if_true]
      rw [behZ_low (by omega)]
      refine ⟨by omega, by omega, by omega, by omega, fun _ _ _ => by omega⟩
theorem tmod1000 (x : Int) : -999 ≤ x.tmod 1000 ∧ x.tmod 1000 ≤ 999 := by
  have h1 := Int.tmod_lt_of_pos x (show (0 : Int) < 1000 by omega)
  have h2 : -1000 < x.tmod 1000 := by
    have := Int.tmod_lt_of_pos (-x) (show (0 : Int) < 1000 by omega)
    rw [Int.neg_tmod] at this
    omega
  omega
set_option maxHeartbeats 8000000 in
theorem forward_any (last : Int) (lv : Value) (l : List (Bool × Int)) (w : World) (h : WordsR w lv l) (hl : l.length ≤ 17592186044416) (hz : ∀ y ∈ l, I64 y.2) :
    Calls Try.prog 5 #[.int .i64 last, lv] w fun e w' => e = .returned (.bool true) ∧ w.grownBy w' none := by
  obtain ⟨a, c, rfl⟩ := h.len
  have HE := hid_mk (And.intro h hz)
  clear h hz
  have ht1 := tmod1000 last
  go_enter Try.func5, Try.ntmps5
  go_upto_region 2 with fail
  obtain ⟨L, hL⟩ : ∃ L, L = (last.tmod 1000 + 1000) % 1000 := ⟨_, rfl⟩
  rw [← hL]
  have hL' : 0 ≤ L ∧ L ≤ 999 := by omega
  clear hL ht1
  go_wp2_with fail
  refine (begin_any L (by unfold J64; omega) w).mono ?_
  rintro e w1 ⟨rfl, hg⟩
  rw [show behZ (max L 0) = L + 1 from by rw [show max L 0 = L by omega]; exact behZ_low (by omega)]
  rw [show peerV (L + 1) 0 = .agg #[.int .i64 (L + 1), .int .i64 0] from rfl]
  have H1 := hid_mk (show PB (w1.alloc (.cells #[.int .i64 (L + 1), .int .i64 0] 42)) w1.heap.size (L + 1) 0 ∧ w.grownBy (w1.alloc (.cells #[.int .i64 (L + 1), .int .i64 0] 42)) none ∧ w.heap.size ≤ w1.heap.size from ⟨PB.new _ _ _, grown_trans hg (World.grownBy_alloc _ _ none), hg.size⟩)
  clear hg
  go_upto_region 3 with fail
  generalize w1.alloc (.cells #[.int .i64 (L + 1), .int .i64 0] 42) = w2 at *
  obtain ⟨pb, hpb⟩ : ∃ pb, pb = w1.heap.size := ⟨_, rfl⟩
  rw [← hpb] at H1 ⊢
  clear hpb
  go_wp2_with fail
  go_loopw [6] (fun iv W => ∃ (i : Nat) (n m : Int), i ≤ l.length ∧ iv = .int .i64 i ∧ (0 ≤ m ∧ m ≤ L) ∧ (m < n ∧ n ≤ L + 1) ∧ Hid (PB W pb n m ∧ w.grownBy W none)) (fun iv _ => l.length - (intOf iv).toNat)
  case atStart => exact ⟨0, L + 1, 0, Nat.zero_le _, rfl, by omega, by omega, hid_mk ⟨H1.out.1, H1.out.2.1⟩⟩
  case round =>
    obtain ⟨i, n, m, hi, rfl, hm, hn, H⟩ := hrel
    rename World => wr
    by_cases hlt : i < l.length
    · have hlt' : (i : Int) < l.length := by omega
      obtain ⟨x, hx⟩ : ∃ x, l[i]? = some x := ⟨l[i], List.getElem?_eq_getElem hlt⟩
      obtain ⟨y, at_⟩ := x
      obtain ⟨eb, off, hae, hcap, hcs⟩ := (HE.out.1.kept H.out.2).at (by omega)
      have hxi : I64 at_ := HE.out.2 (y, at_) (List.mem_of_getElem? hx)
      obtain ⟨q0, q1⟩ := hcs i _ hx
      simp only at q0 q1
      subst hae
      have HF := hid_mk (heard_fwd (yes := y) (at_ := at_) hL' hm hn)
      obtain ⟨nn, hnn⟩ : ∃ nn, nn = heardN n m y at_ L := ⟨_, rfl⟩
      obtain ⟨mm, hmm⟩ : ∃ mm, mm = heardM m y at_ L := ⟨_, rfl⟩
      rw [← hnn, ← hmm] at HF
      have HH := hid_mk (fun W => heard_any n m y at_ L (by unfold J64; omega) (by unfold J64; omega) hxi (by unfold J64; omega) W)
      rw [← hnn, ← hmm, show peerV n m = .agg #[.int .i64 n, .int .i64 m] from rfl, show peerV nn mm = .agg #[.int .i64 nn, .int .i64 mm] from rfl] at HH
      have HX := hid_mk hxi
      clear hcs hx hxi hnn hmm
      have HCL : ∀ W, wr.grownBy W none → W.cell? ⟨pb, 0, none⟩ = some (.int .i64 n) ∧ W.cell? ⟨pb, 1, none⟩ = some (.int .i64 m) ∧ W.cell? ⟨eb, off + i * 2, none⟩ = some (.bool y) ∧ W.cell? ⟨eb, off + i * 2 + 1, none⟩ = some (.int .i64 at_) := fun W hW =>
        ⟨(H.out.1.kept hW (by simp)).cells.1, (H.out.1.kept hW (by simp)).cells.2, hW.cell q0 (by simp), hW.cell q1 (by simp)⟩
      clear q0 q1
      have HX0 := hid_mk (show BS wr wr #[.int .i64 0, .int .i64 0] 42 none from ⟨grown_refl _ _, fun q e => by cases e⟩)
      go_upto_region 6 with fail
      go_cut [7] (fun s wx => ∃ q, s = .pointer (some ⟨q, 0, none⟩) ∧ Hid (wr.grownBy wx none ∧ PB wx q nn mm))
      case first =>
        refine wp_region_fork (X := fun _ _ _ => False) [(0, true), (1, true), (2, true), (3, true), (4, true), (5, true), (6, true), (7, true), (8, true), (9, true), (10, true), (11, true)] 3 #[true, true, true, true, true, true, true, true, true, true, true, true, false, false, false] (cl wr wr) (by kernel_rfl) (by kernel_rfl) rfl (by kernel_rfl) (fun _ _ _ h => h.elim) (shut_at0 (fun mm => grown_drewN _ mm _)) ⟨1, rfl⟩ ?_
        repeat (refine mix_rd1X rfl rfl (fun K hK => ?_); apply Exists.intro; refine ⟨fun W0 hW => ?_, ?_⟩; (obtain ⟨d0, d1, d2, d3⟩ := HCL W0 hW; go_simp; rfl); (go_simp; refine hK _ _ ?_; clear hK K))
        refine mix_nilX ?_
        refine fork2 12 13 (by kernel_rfl) ?_ ?_
        · refine bs_call HX0.out 17 #[.agg #[.int .i64 n, .int .i64 m], .bool y, .int .i64 at_, .int .i64 L] (fun v _ _ => v = .agg #[.int .i64 nn, .int .i64 mm]) rfl rfl (fun W => by go_simp) (fun W1 hW1 => (HH.out W1).mono (by rintro e W' ⟨rfl, hg⟩; exact ⟨_, rfl, rfl, hg⟩)) ?_
          intro K hK v W1 Wc1 H1'
          obtain ⟨hbs1, hg1, hg2, hv⟩ := H1'.out
          subst hv
          have HBS1 := hid_mk hbs1
          clear hbs1 hg1 hg2 H1'
          go_simp
          refine hK _ _ ?_
          clear hK K
          refine fork1 13 (by kernel_rfl) ?_
          refine bs_box #[.int .i64 0, .int .i64 0] HBS1.out rfl rfl (fun W => by go_simp) ?_
          intro K hK q Wb4 HB4
          have HBX := hid_mk HB4.out.1
          go_simp
          refine hK _ _ ?_
          clear hK K
          refine fork1 14 (by kernel_rfl) ?_
          refine bs_store q HBX.out #[.int .i64 nn, .int .i64 mm] (fun W => (W.setCell ⟨q, 0, none⟩ (.int .i64 nn)).setCell ⟨q, 1, none⟩ (.int .i64 mm)) (fun W hb => PB.put (show PB W q 0 0 from hb) nn mm) rfl rfl (fun W hb => by
            obtain ⟨e0, e1⟩ := (show PB W q 0 0 from hb).cells
            have ef := fun j => hb.frozen j
            first | (left; go_simp; done) | (right; apply Exists.intro; go_simp; rfl) | (right; apply Exists.intro; go_simp)) rfl ?_
          intro K hK Ws HS
          refine hK _ _ ?_
          clear hK K
          refine fork_end (by kernel_rfl) ?_
          rintro Wz ⟨mz, rfl⟩
          go_wp2_with fail
          go_meet
          case rel =>
            exact ⟨q, rfl, hid_mk ⟨grown_trans HS.out.1 (grown_drewN _ mz none), (show PB Ws q nn mm from HS.out.2.2.1).kept (grown_drewN _ mz none) (by simp)⟩⟩
        · refine bs_box #[.int .i64 0, .int .i64 0] HX0.out rfl rfl (fun W => by go_simp) ?_
          intro K hK q Wb3 HB3
          have HBS3 := hid_mk HB3.out.1
          go_simp
          refine hK _ _ ?_
          clear hK K
          refine fork1 12 (by kernel_rfl) ?_
          refine bs_call HBS3.out 17 #[.agg #[.int .i64 n, .int .i64 m], .bool y, .int .i64 at_, .int .i64 L] (fun v _ _ => v = .agg #[.int .i64 nn, .int .i64 mm]) rfl rfl (fun W => by go_simp) (fun W1 hW1 => (HH.out W1).mono (by rintro e W' ⟨rfl, hg⟩; exact ⟨_, rfl, rfl, hg⟩)) ?_
          intro K hK v W1 Wc1 H1'
          obtain ⟨hbs1, hg1, hg2, hv⟩ := H1'.out
          subst hv
          have HBX := hid_mk hbs1
          clear hbs1 hg1 hg2 H1'
          go_simp
          refine hK _ _ ?_
          clear hK K
          refine fork1 14 (by kernel_rfl) ?_
          refine bs_store q HBX.out #[.int .i64 nn, .int .i64 mm] (fun W => (W.setCell ⟨q, 0, none⟩ (.int .i64 nn)).setCell ⟨q, 1, none⟩ (.int .i64 mm)) (fun W hb => PB.put (show PB W q 0 0 from hb) nn mm) rfl rfl (fun W hb => by
            obtain ⟨e0, e1⟩ := (show PB W q 0 0 from hb).cells
            have ef := fun j => hb.frozen j
            first | (left; go_simp; done) | (right; apply Exists.intro; go_simp; rfl) | (right; apply Exists.intro; go_simp)) rfl ?_
          intro K hK Ws HS
          refine hK _ _ ?_
          clear hK K
          refine fork_end (by kernel_rfl) ?_
          rintro Wz ⟨mz, rfl⟩
          go_wp2_with fail
          go_meet
          case rel =>
            exact ⟨q, rfl, hid_mk ⟨grown_trans HS.out.1 (grown_drewN _ mz none), (show PB Ws q nn mm from HS.out.2.2.1).kept (grown_drewN _ mz none) (by simp)⟩⟩
      case rest =>
        obtain ⟨q, rfl, HC⟩ := hcut
        rename World => wc
        clear HX0 HH
        obtain ⟨f1, f2, f3, f4, f5⟩ := HF.out
        obtain ⟨d0, d1, d2, d3⟩ := HCL wc HC.out.1
        obtain ⟨g0, g1⟩ := HC.out.2.cells
        have k1 : ¬ mm < m := by omega
        have k2 : ¬ nn ≤ mm := by omega
        have k3 : ¬ L + 1 < nn := by omega
        have k4 : ¬ L < mm := by omega
        go_upto_region 9 with fail
        have HCM : ∀ W, wc.grownBy W none → W.cell? ⟨pb, 0, none⟩ = some (.int .i64 n) ∧ W.cell? ⟨pb, 1, none⟩ = some (.int .i64 m) ∧ W.cell? ⟨eb, off + i * 2, none⟩ = some (.bool y) ∧ W.cell? ⟨eb, off + i * 2 + 1, none⟩ = some (.int .i64 at_) ∧ W.cell? ⟨q, 0, none⟩ = some (.int .i64 nn) ∧ W.cell? ⟨q, 1, none⟩ = some (.int .i64 mm) := fun W hW =>
          ⟨hW.cell d0 (by simp), hW.cell d1 (by simp), hW.cell d2 (by simp), hW.cell d3 (by simp), hW.cell g0 (by simp), hW.cell g1 (by simp)⟩
        clear d0 d1 d2 d3 g0 g1
        go_cut [89] (fun s wx => s = .bool false ∧ Hid (wc.grownBy wx none))
        case first =>
          clear k1 k2 k3 k4 f1 f2 f3 f4 HF
          cases y with
          | false =>
            refine wp_region_mix [(0, true), (1, true), (2, true), (3, true), (4, true), (5, true), (6, true), (7, true), (8, true), (9, true), (10, true), (11, true), (12, true), (13, true), (14, true), (15, true), (16, true), (17, true), (18, true), (19, true), (20, true), (21, true), (22, true), (23, true), (24, true), (25, true), (26, true), (27, true), (28, true), (29, true), (30, true), (31, true)] (at0 wc (fun W => wc.grownBy W none)) (by kernel_rfl) (by kernel_rfl) rfl (by kernel_rfl) (shut_at0 (fun m => grown_drewN _ m none)) ⟨1, rfl⟩ ?_
            repeat (first | (refine mix_no1 rfl rfl (fun K hK => ?_); go_simp; refine hK _ _ ?_; clear hK K) | (refine mix_rd1 rfl rfl (fun K hK => ?_); apply Exists.intro; refine ⟨fun W hW => ?_, ?_⟩; (obtain ⟨d0, d1, d2, d3, d4, d5⟩ := HCM W hW; go_simp; rfl); (go_simp; refine hK _ _ ?_; clear hK K)))
            refine mix_nil ?_
            rintro W ⟨m7, rfl⟩
            go_wp2_with fail
            go_meet
            case rel => exact ⟨rfl, hid_mk (grown_drewN _ m7 none)⟩
          | true =>
            by_cases h1 : 0 ≤ at_
            · by_cases h2 : at_ ≤ L
              · have h3 : ¬ mm < at_ := by have := f5 rfl h1 h2; omega
                clear f5
                refine wp_region_mix [(0, true), (1, true), (2, true), (3, true), (4, true), (5, true), (6, true), (7, true), (8, true), (9, true), (10, true), (11, true), (12, true), (13, true), (14, true), (15, true), (16, true), (17, true), (18, true), (19, true), (20, true), (21, true), (22, true), (23, true), (24, true), (25, true), (26, true), (27, true), (28, true), (29, true), (30, true), (31, true)] (at0 wc (fun W => wc.grownBy W none)) (by kernel_rfl) (by kernel_rfl) rfl (by kernel_rfl) (shut_at0 (fun m => grown_drewN _ m none)) ⟨1, rfl⟩ ?_
                repeat (first | (refine mix_no1 rfl rfl (fun K hK => ?_); go_simp; refine hK _ _ ?_; clear hK K) | (refine mix_rd1 rfl rfl (fun K hK => ?_); apply Exists.intro; refine ⟨fun W hW => ?_, ?_⟩; (obtain ⟨d0, d1, d2, d3, d4, d5⟩ := HCM W hW; go_simp; rfl); (go_simp; refine hK _ _ ?_; clear hK K)))
                refine mix_nil ?_
                rintro W ⟨m7, rfl⟩
                go_wp2_with fail
                go_meet
                case rel => exact ⟨rfl, hid_mk (grown_drewN _ m7 none)⟩
              · clear f5
                refine wp_region_mix [(0, true), (1, true), (2, true), (3, true), (4, true), (5, true), (6, true), (7, true), (8, true), (9, true), (10, true), (11, true), (12, true), (13, true), (14, true), (15, true), (16, true), (17, true), (18, true), (19, true), (20, true), (21, true), (22, true), (23, true), (24, true), (25, true), (26, true), (27, true), (28, true), (29, true), (30, true), (31, true)] (at0 wc (fun W => wc.grownBy W none)) (by kernel_rfl) (by kernel_rfl) rfl (by kernel_rfl) (shut_at0 (fun m => grown_drewN _ m none)) ⟨1, rfl⟩ ?_
                repeat (first | (refine mix_no1 rfl rfl (fun K hK => ?_); go_simp; refine hK _ _ ?_; clear hK K) | (refine mix_rd1 rfl rfl (fun K hK => ?_); apply Exists.intro; refine ⟨fun W hW => ?_, ?_⟩; (obtain ⟨d0, d1, d2, d3, d4, d5⟩ := HCM W hW; go_simp; rfl); (go_simp; refine hK _ _ ?_; clear hK K)))
                refine mix_nil ?_
                rintro W ⟨m7, rfl⟩
                go_wp2_with fail
                go_meet
                case rel => exact ⟨rfl, hid_mk (grown_drewN _ m7 none)⟩
            · clear f5
              refine wp_region_mix [(0, true), (1, true), (2, true), (3, true), (4, true), (5, true), (6, true), (7, true), (8, true), (9, true), (10, true), (11, true), (12, true), (13, true), (14, true), (15, true), (16, true), (17, true), (18, true), (19, true), (20, true), (21, true), (22, true), (23, true), (24, true), (25, true), (26, true), (27, true), (28, true), (29, true), (30, true), (31, true)] (at0 wc (fun W => wc.grownBy W none)) (by kernel_rfl) (by kernel_rfl) rfl (by kernel_rfl) (shut_at0 (fun m => grown_drewN _ m none)) ⟨1, rfl⟩ ?_
              repeat (first | (refine mix_no1 rfl rfl (fun K hK => ?_); go_simp; refine hK _ _ ?_; clear hK K) | (refine mix_rd1 rfl rfl (fun K hK => ?_); apply Exists.intro; refine ⟨fun W hW => ?_, ?_⟩; (obtain ⟨d0, d1, d2, d3, d4, d5⟩ := HCM W hW; go_simp; rfl); (go_simp; refine hK _ _ ?_; clear hK K)))
              refine mix_nil ?_
              rintro W ⟨m7, rfl⟩
              go_wp2_with fail
              go_meet
              case rel => exact ⟨rfl, hid_mk (grown_drewN _ m7 none)⟩
        case rest =>
          obtain ⟨rfl, HG⟩ := hcut
          rename World => wd
          obtain ⟨d0, d1, d2, d3, d4, d5⟩ := HCM wd HG.out
          have HP := hid_mk (show PB wd pb n m ∧ w.grownBy wd none from ⟨H.out.1.kept (grown_trans HC.out.1 HG.out) (by simp), grown_trans H.out.2 (grown_trans HC.out.1 HG.out)⟩)
          have z0 := HP.out.1.frozen (i := 0)
          have z1 := HP.out.1.frozen (i := 1)
          obtain ⟨p1, p2⟩ := HP.out.1.put nn mm
          have HN := hid_mk (show PB ((wd.setCell ⟨pb, 0, none⟩ (.int .i64 nn)).setCell ⟨pb, 1, none⟩ (.int .i64 mm)) pb nn mm ∧ w.grownBy ((wd.setCell ⟨pb, 0, none⟩ (.int .i64 nn)).setCell ⟨pb, 1, none⟩ (.int .i64 mm)) none from ⟨p1, grown_new HP.out.2 p2 H1.out.2.2⟩)
          clear p1 p2 HCM HCL H
          go_wp2_with fail
          go_roundw
          case rel => exact ⟨i + 1, nn, mm, by omega, by first | rfl | (congr 1; done) | (congr 1; omega), by omega, by omega, hid_mk HN.out⟩
          case measure => simp [intOf]; omega
    · have hlt' : ¬ (i : Int) < l.length := by omega
      have HG := hid_mk H.out.2
      clear H
      go_wp2_with fail
      refine (knows_any wr).mono ?_
      rintro e wy ⟨rfl, hg⟩
      have GY := hid_mk (grown_trans HG.out hg)
      clear hg
      go_wp2
      go_ret
      exact ⟨rfl, GY.out⟩
end Go.Proofs.Ytinpcpojadcegaa.W
