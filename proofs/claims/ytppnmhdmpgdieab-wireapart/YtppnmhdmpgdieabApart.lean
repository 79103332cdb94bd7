/- WireApart: its walk. -/
import Derived.Test.YtppnmhdmpgdieabEntC
import Derived.Test.YtppnmhdmpgdieabSn
import Derived.Deep.DeepCutAuto
namespace Go.Proofs.Ytppnmhdmpgdieab
open Go.RowKit Go.Maps
set_option linter.unusedVariables false
set_option linter.unusedSimpArgs false

theorem drawn (w : World) (m : Nat) : w.grownBy (w.drewN m) none := grown_drewN _ m none
theorem boxes2 (w : World) (x y : Ent) (dv dv' : Value) : EB ((w.alloc (.cells #[.int .i64 x.term, .int .i64 x.index, .int .i64 x.kind, dv] 24)).alloc (.cells #[.int .i64 y.term, .int .i64 y.index, .int .i64 y.kind, dv'] 24)) w.heap.size x dv ∧ EB ((w.alloc (.cells #[.int .i64 x.term, .int .i64 x.index, .int .i64 x.kind, dv] 24)).alloc (.cells #[.int .i64 y.term, .int .i64 y.index, .int .i64 y.kind, dv'] 24)) (w.heap.size + 1) y dv' := by
  constructor
  · exact EB.kept (heap_alloc_new _ _) (World.grownBy_alloc _ _ _)
  · have := heap_alloc_new (w.alloc (.cells #[.int .i64 x.term, .int .i64 x.index, .int .i64 x.kind, dv] 24)) (.cells #[.int .i64 y.term, .int .i64 y.index, .int .i64 y.kind, dv'] 24)
    rw [show (w.alloc (.cells #[.int .i64 x.term, .int .i64 x.index, .int .i64 x.kind, dv] 24)).heap.size = w.heap.size + 1 by simp] at this
    exact this
/-- Numbers: both right, and unlike. -/
theorem numL_ne {a b : Int} (ha : ¬ (a < 0 ∨ 281474976710655 < a)) (hb : ¬ (b < 0 ∨ 281474976710655 < b)) (h : ¬ a = b) : numL a ≠ numL b := by
  rw [(numL_ok ha).1, (numL_ok hb).1]
  intro e
  have := numB_inj (by omega) (by omega) e
  omega
theorem entL_ne {x y : Ent} (hx : rightE x = true) (hy : rightE y = true) (h : ¬ x = y) : entL x ≠ entL y := by
  rw [(entL_ok hx).1, (entL_ok hy).1]
  exact fun e => h (entB_inj hx hy e)
theorem srvL_ne {x y : List Int} (hx : rightS x = true) (hy : rightS y = true) (h : ¬ x = y) : srvL x ≠ srvL y := by
  rw [(srvL_ok hx).1, (srvL_ok hy).1]
  exact fun e => h (srvB_inj hx hy e)

set_option maxRecDepth 100000 in
set_option maxHeartbeats 4000000 in
theorem apart_any (a b : Int) (x y : Ent) (dv dv' lv mv : Value) (l m : List Int) (w : World) (hx : Byt w dv x.data) (hy : Byt w dv' y.data) (hl : IntsR w lv l) (hm : IntsR w mv m)
    (hxl : x.data.length ≤ 140737488355328) (hyl : y.data.length ≤ 140737488355328) (hll : l.length ≤ 140737488355328) (hml : m.length ≤ 140737488355328) :
    Calls Try.prog 3 #[.int .i64 a, .int .i64 b, entV x dv, entV y dv', lv, mv] w fun e w' => e = .returned (.bool true) ∧ w.grownBy w' none := by
  obtain ⟨la, lc, rfl⟩ := hl.len
  obtain ⟨ma, mc, rfl⟩ := hm.len
  have HX := hid_mk hx
  have HY := hid_mk hy
  have HL := hid_mk hl
  have HM := hid_mk hm
  clear hx hy hl hm
  unfold entV
  have E0 := hid_mk (boxes2 w x y dv dv')
  have G0 := hid_mk (show w.grownBy ((w.alloc (.cells #[.int .i64 x.term, .int .i64 x.index, .int .i64 x.kind, dv] 24)).alloc (.cells #[.int .i64 y.term, .int .i64 y.index, .int .i64 y.kind, dv'] 24)) none from grown_trans (World.grownBy_alloc _ _ _) (World.grownBy_alloc _ _ _))
  go_enter Try.func3, Try.ntmps3
  go_wp2_with fail
  generalize (w.alloc (.cells #[.int .i64 x.term, .int .i64 x.index, .int .i64 x.kind, dv] 24)).alloc (.cells #[.int .i64 y.term, .int .i64 y.index, .int .i64 y.kind, dv'] 24) = w0 at *
  generalize hb9 : w.heap.size + 1 = b9 at *
  generalize hb8 : w.heap.size = b8 at *
  clear hb8 hb9
  refine (putNumber_any a w0).mono ?_
  rintro e w1 ⟨a1, c1, rfl, ho1, hg1⟩
  have H1 := hid_mk (And.intro ho1.byt hg1)
  clear ho1 hg1
  go_wp2_with fail
  refine (putNumber_any b w1).mono ?_
  rintro e w2 ⟨a2, c2, rfl, ho2, hg2⟩
  have T1 := hid_mk (H1.out.1.kept hg2)
  have T2 := hid_mk ho2.byt
  have G2 := hid_mk (grown_trans H1.out.2 hg2)
  clear ho2 hg2 H1
  generalize hn1 : (numL a).length = n1 at *
  generalize hn2 : (numL b).length = n2 at *
  generalize hea : numErr a = ea at *
  generalize heb : numErr b = eb at *
  have HNE := hid_mk (And.intro hea heb)
  clear hn1 hn2 hea heb
  go_upto_region 3 with fail
  go_cut [45] (fun s W => s = .bool false ∧ Hid (w2.grownBy W none))
  case first =>
    have t1 := T1.out.text
    have t2 := T2.out.text
    by_cases ha : a < 0 ∨ 281474976710655 < a
    · obtain rfl : ea = 11 := by rw [← HNE.out.1]; exact (numL_bad ha).2
      clear ha HNE
      go_wp2_with (go_at_call 5; refine (num_any _ _).mono ?_; rintro e wx ⟨rfl, hwx⟩; subst wx)
      go_meet
      case rel => exact ⟨rfl, hid_mk (grown_refl _ _)⟩
    · obtain rfl : ea = 0 := by rw [← HNE.out.1]; exact (numL_ok ha).2
      by_cases hb : b < 0 ∨ 281474976710655 < b
      · obtain rfl : eb = 11 := by rw [← HNE.out.2]; exact (numL_bad hb).2
        clear ha hb HNE
        go_wp2_with (go_at_call 5; refine (num_any _ _).mono ?_; rintro e wx ⟨rfl, hwx⟩; subst wx)
        go_meet
        case rel => exact ⟨rfl, hid_mk (grown_refl _ _)⟩
      · obtain rfl : eb = 0 := by rw [← HNE.out.2]; exact (numL_ok hb).2
        by_cases hab : a = b
        · subst hab
          clear ha hb HNE
          go_wp2_with (go_at_call 5; refine (num_any _ _).mono ?_; rintro e wx ⟨rfl, hwx⟩; subst wx)
          go_meet
          case rel => exact ⟨rfl, hid_mk (grown_refl _ _)⟩
        · have hs := bytes_ne (numL_ne ha hb hab)
          generalize (⟨(numL a).toArray⟩ : ByteArray) = s1 at *
          generalize (⟨(numL b).toArray⟩ : ByteArray) = s2 at *
          clear ha hb HNE T1 T2
          go_wp2_with (go_at_call 5; refine (num_any _ _).mono ?_; rintro e wx ⟨rfl, hwx⟩; subst wx)
          go_meet
          case rel => exact ⟨by simpa using hab, hid_mk (grown_refl _ _)⟩
  case rest =>
    obtain ⟨rfl, H3⟩ := hcut
    rename World => w3
    have G3 := hid_mk (show w0.grownBy w3 none from grown_trans G2.out H3.out)
    clear H3 G2 T1 T2 HNE
    obtain ⟨p0, p1, p2, p3, _⟩ := (E0.out.1.kept G3.out).cells
    go_wp2_with fail
    clear p0 p1 p2 p3
    refine (ownE_any x dv w3 (HX.out.kept (grown_trans G0.out G3.out)) hxl).mono ?_
    rintro e w4 ⟨dv4, rfl, ho4, hg4⟩
    unfold entV
    go_wp2_with fail
    refine (putEntry_any x dv4 w4 ho4.byt hxl).mono ?_
    rintro e w5 ⟨a5, c5, rfl, ho5, hg5⟩
    have T5 := hid_mk ho5.byt
    have G5 := hid_mk (show w0.grownBy w5 none from grown_trans G3.out (grown_trans hg4 hg5))
    clear ho4 hg4 ho5 hg5
    obtain ⟨p0, p1, p2, p3, _⟩ := (E0.out.2.kept G5.out).cells
    go_wp2_with fail
    clear p0 p1 p2 p3
    refine (ownE_any y dv' w5 (HY.out.kept (grown_trans G0.out G5.out)) hyl).mono ?_
    rintro e w5b ⟨dv5, rfl, ho5, hg5⟩
    unfold entV
    go_wp2_with fail
    refine (putEntry_any y dv5 w5b ho5.byt hyl).mono ?_
    rintro e w6 ⟨a6, c6, rfl, ho6, hg6⟩
    have T6 := hid_mk ho6.byt
    have T5' := hid_mk (T5.out.kept (grown_trans hg5 hg6))
    have G6 := hid_mk (show w0.grownBy w6 none from grown_trans G5.out (grown_trans hg5 hg6))
    clear ho5 hg5 ho6 hg6 T5
    generalize hn5 : (entL x).length = n5 at *
    generalize hn6 : (entL y).length = n6 at *
    generalize hex : entErr x = ex at *
    generalize hey : entErr y = ey at *
    have HEE := hid_mk (And.intro hex hey)
    clear hn5 hn6 hex hey
    have HC : ∀ W, w6.grownBy W none → W.cell? ⟨b8, 0, none⟩ = some (.int .i64 x.term) ∧ W.cell? ⟨b8, 1, none⟩ = some (.int .i64 x.index) ∧ W.cell? ⟨b8, 2, none⟩ = some (.int .i64 x.kind) ∧ W.cell? ⟨b8, 3, none⟩ = some dv ∧ W.cell? ⟨b9, 0, none⟩ = some (.int .i64 y.term) ∧ W.cell? ⟨b9, 1, none⟩ = some (.int .i64 y.index) ∧ W.cell? ⟨b9, 2, none⟩ = some (.int .i64 y.kind) ∧ W.cell? ⟨b9, 3, none⟩ = some dv' ∧ (convert 22 9 (.slice a5 n5 c5)).run Try.prog W = .ok (.string ⟨(entL x).toArray⟩) W ∧ (convert 22 9 (.slice a6 n6 c6)).run Try.prog W = .ok (.string ⟨(entL y).toArray⟩) W := fun W hW => by
      obtain ⟨p0, p1, p2, p3, _⟩ := (E0.out.1.kept (grown_trans G6.out hW)).cells
      obtain ⟨q0, q1, q2, q3, _⟩ := (E0.out.2.kept (grown_trans G6.out hW)).cells
      exact ⟨p0, p1, p2, p3, q0, q1, q2, q3, (T5'.out.kept hW).text, (T6.out.kept hW).text⟩
    go_upto_region 7 with fail
    go_cut [76] (fun s W => s = .bool false ∧ Hid (w6.grownBy W none))
    case first =>
      cases hrx : rightE x with
      | false =>
        obtain rfl : ex = 1 := by rw [← HEE.out.1]; exact (entL_bad hrx).2
        clear hrx HEE
        refine wp_region_mix [(0, true), (1, true), (2, true), (3, true), (4, true), (5, true), (6, true), (7, true), (8, true), (9, true), (10, true), (11, true), (12, true), (13, true), (14, true), (15, true), (16, false), (17, true), (18, true)] (at0 w6 (fun W => w6.grownBy W none)) (by kernel_rfl) (by kernel_rfl) rfl (by kernel_rfl) (shut_at0 (drawn w6)) ⟨1, rfl⟩ ?_
        repeat (first
          | (refine mix_no1 rfl rfl (fun K hK => ?_); go_simp; refine hK _ _ ?_; clear hK K)
          | (refine mix_rd1 rfl rfl (fun K hK => ?_); apply Exists.intro; refine ⟨fun W hW => ?_, ?_⟩; (obtain ⟨p0, p1, p2, p3, q0, q1, q2, q3, f1, f2⟩ := HC W hW; go_simp; rfl); (go_simp; refine hK _ _ ?_; clear hK K))
          | (refine mix_rdcall rfl rfl 5 #[.int .i64 1] (.int .i64 1) (fun W => ?_) (fun W hW => (num_any 1 W).mono (fun e w' ⟨h1, h2⟩ => ⟨h1, 0, h2⟩)) ?_; focus (go_simp; done)))
        refine mix_nil ?_
        rintro W ⟨mz, rfl⟩
        go_wp2_with fail
        go_meet
        case rel => exact ⟨rfl, hid_mk (drawn w6 mz)⟩
      | true =>
        obtain rfl : ex = 0 := by rw [← HEE.out.1]; exact (entL_ok hrx).2
        cases hry : rightE y with
        | false =>
          obtain rfl : ey = 1 := by rw [← HEE.out.2]; exact (entL_bad hry).2
          clear hrx hry HEE
          refine wp_region_mix [(0, true), (1, true), (2, true), (3, true), (4, true), (5, true), (6, true), (7, true), (8, true), (9, true), (10, true), (11, true), (12, true), (13, true), (14, true), (15, true), (16, false), (17, true), (18, true)] (at0 w6 (fun W => w6.grownBy W none)) (by kernel_rfl) (by kernel_rfl) rfl (by kernel_rfl) (shut_at0 (drawn w6)) ⟨1, rfl⟩ ?_
          repeat (first
            | (refine mix_no1 rfl rfl (fun K hK => ?_); go_simp; refine hK _ _ ?_; clear hK K)
            | (refine mix_rd1 rfl rfl (fun K hK => ?_); apply Exists.intro; refine ⟨fun W hW => ?_, ?_⟩; (obtain ⟨p0, p1, p2, p3, q0, q1, q2, q3, f1, f2⟩ := HC W hW; go_simp; rfl); (go_simp; refine hK _ _ ?_; clear hK K))
            | (refine mix_rdcall rfl rfl 5 #[.int .i64 0] (.int .i64 0) (fun W => ?_) (fun W hW => (num_any 0 W).mono (fun e w' ⟨h1, h2⟩ => ⟨h1, 0, h2⟩)) ?_; focus (go_simp; done))
            | (refine mix_rdcall rfl rfl 5 #[.int .i64 1] (.int .i64 1) (fun W => ?_) (fun W hW => (num_any 1 W).mono (fun e w' ⟨h1, h2⟩ => ⟨h1, 0, h2⟩)) ?_; focus (go_simp; done)))
          refine mix_nil ?_
          rintro W ⟨mz, rfl⟩
          go_wp2_with fail
          go_meet
          case rel => exact ⟨rfl, hid_mk (drawn w6 mz)⟩
        | true =>
          obtain rfl : ey = 0 := by rw [← HEE.out.2]; exact (entL_ok hry).2
          by_cases hxy : x = y
          · subst hxy
            clear hrx hry HEE
            refine wp_region_mix [(0, true), (1, true), (2, true), (3, true), (4, true), (5, true), (6, true), (7, true), (8, true), (9, true), (10, true), (11, true), (12, true), (13, true), (14, true), (15, true), (16, false), (17, true), (18, true)] (at0 w6 (fun W => w6.grownBy W none)) (by kernel_rfl) (by kernel_rfl) rfl (by kernel_rfl) (shut_at0 (drawn w6)) ⟨1, rfl⟩ ?_
            repeat (first
              | (refine mix_no1 rfl rfl (fun K hK => ?_); go_simp; refine hK _ _ ?_; clear hK K)
              | (refine mix_rd1 rfl rfl (fun K hK => ?_); apply Exists.intro; refine ⟨fun W hW => ?_, ?_⟩; (obtain ⟨p0, p1, p2, p3, q0, q1, q2, q3, f1, f2⟩ := HC W hW; go_simp; rfl); (go_simp; refine hK _ _ ?_; clear hK K))
              | (refine mix_rdcall rfl rfl 5 #[.int .i64 0] (.int .i64 0) (fun W => ?_) (fun W hW => (num_any 0 W).mono (fun e w' ⟨h1, h2⟩ => ⟨h1, 0, h2⟩)) ?_; focus (go_simp; done))
              | (refine mix_rdcall rfl rfl 5 #[.int .i64 1] (.int .i64 1) (fun W => ?_) (fun W hW => (num_any 1 W).mono (fun e w' ⟨h1, h2⟩ => ⟨h1, 0, h2⟩)) ?_; focus (go_simp; done)))
            refine mix_call rfl rfl 8 #[.agg #[.int .i64 x.term, .int .i64 x.index, .int .i64 x.kind, dv], .agg #[.int .i64 x.term, .int .i64 x.index, .int .i64 x.kind, dv']] (fun W => by go_simp) ?_
            rintro W ⟨m7, rfl⟩
            refine (same_any x dv dv' (w6.drewN m7) (HX.out.kept (grown_trans G0.out (grown_trans G6.out (drawn w6 m7)))) (HY.out.kept (grown_trans G0.out (grown_trans G6.out (drawn w6 m7))))).mono ?_
            rintro e w7 ⟨rfl, hg7⟩
            have G7 := hid_mk (grown_trans (drawn w6 m7) hg7)
            clear hg7
            refine ⟨_, rfl, at0 w7 (fun W => w7.grownBy W none), ⟨0, rfl⟩, shut_at0 (drawn w7), fun _ h => grown_trans G7.out h, ?_⟩
            repeat (first
              | (refine mix_no1 rfl rfl (fun K hK => ?_); go_simp; refine hK _ _ ?_; clear hK K)
              | (refine mix_rd1 rfl rfl (fun K hK => ?_); apply Exists.intro; refine ⟨fun W hW => ?_, ?_⟩; ( go_simp; rfl); (go_simp; refine hK _ _ ?_; clear hK K)))
            refine mix_nil ?_
            rintro W ⟨mz, rfl⟩
            go_wp2_with fail
            go_meet
            case rel => exact ⟨rfl, hid_mk (grown_trans G7.out (drawn w7 mz))⟩
          · have hs := bytes_ne (entL_ne hrx hry hxy)
            clear hrx hry HEE
            have HXY := hid_mk hxy
            clear hxy
            generalize (⟨(entL x).toArray⟩ : ByteArray) = s1 at *
            generalize (⟨(entL y).toArray⟩ : ByteArray) = s2 at *
            refine wp_region_mix [(0, true), (1, true), (2, true), (3, true), (4, true), (5, true), (6, true), (7, true), (8, true), (9, true), (10, true), (11, true), (12, true), (13, true), (14, true), (15, true), (16, false), (17, true), (18, true)] (at0 w6 (fun W => w6.grownBy W none)) (by kernel_rfl) (by kernel_rfl) rfl (by kernel_rfl) (shut_at0 (drawn w6)) ⟨1, rfl⟩ ?_
            repeat (first
              | (refine mix_no1 rfl rfl (fun K hK => ?_); go_simp; refine hK _ _ ?_; clear hK K)
              | (refine mix_rd1 rfl rfl (fun K hK => ?_); apply Exists.intro; refine ⟨fun W hW => ?_, ?_⟩; (obtain ⟨p0, p1, p2, p3, q0, q1, q2, q3, f1, f2⟩ := HC W hW; go_simp; rfl); (go_simp; refine hK _ _ ?_; clear hK K))
              | (refine mix_rdcall rfl rfl 5 #[.int .i64 0] (.int .i64 0) (fun W => ?_) (fun W hW => (num_any 0 W).mono (fun e w' ⟨h1, h2⟩ => ⟨h1, 0, h2⟩)) ?_; focus (go_simp; done))
              | (refine mix_rdcall rfl rfl 5 #[.int .i64 1] (.int .i64 1) (fun W => ?_) (fun W hW => (num_any 1 W).mono (fun e w' ⟨h1, h2⟩ => ⟨h1, 0, h2⟩)) ?_; focus (go_simp; done)))
            refine mix_call rfl rfl 8 #[.agg #[.int .i64 x.term, .int .i64 x.index, .int .i64 x.kind, dv], .agg #[.int .i64 y.term, .int .i64 y.index, .int .i64 y.kind, dv']] (fun W => by go_simp) ?_
            rintro W ⟨m7, rfl⟩
            refine (same_no x y dv dv' (w6.drewN m7) (HX.out.kept (grown_trans G0.out (grown_trans G6.out (drawn w6 m7)))) (HY.out.kept (grown_trans G0.out (grown_trans G6.out (drawn w6 m7)))) HXY.out).mono ?_
            rintro e w7 ⟨rfl, hg7⟩
            have G7 := hid_mk (grown_trans (drawn w6 m7) hg7)
            clear hg7
            refine ⟨_, rfl, at0 w7 (fun W => w7.grownBy W none), ⟨0, rfl⟩, shut_at0 (drawn w7), fun _ h => grown_trans G7.out h, ?_⟩
            repeat (first
              | (refine mix_no1 rfl rfl (fun K hK => ?_); go_simp; refine hK _ _ ?_; clear hK K)
              | (refine mix_rd1 rfl rfl (fun K hK => ?_); apply Exists.intro; refine ⟨fun W hW => ?_, ?_⟩; ( go_simp; rfl); (go_simp; refine hK _ _ ?_; clear hK K)))
            refine mix_nil ?_
            rintro W ⟨mz, rfl⟩
            go_wp2_with fail
            go_meet
            case rel => exact ⟨rfl, hid_mk (grown_trans G7.out (drawn w7 mz))⟩
    case rest =>
      obtain ⟨rfl, H8⟩ := hcut
      rename World => w8
      have G8 := hid_mk (show w0.grownBy w8 none from grown_trans G6.out H8.out)
      clear H8 G6 T5' T6 HC HEE
      go_wp2_with fail
      refine (putServers_any _ l w8 (HL.out.kept (grown_trans G0.out G8.out))).mono ?_
      rintro e w9 ⟨a9, c9, rfl, ho9, hg9⟩
      have H9 := hid_mk (And.intro ho9.byt hg9)
      clear ho9 hg9
      go_wp2_with fail
      refine (putServers_any _ m w9 (HM.out.kept (grown_trans G0.out (grown_trans G8.out H9.out.2)))).mono ?_
      rintro e w10 ⟨a10, c10, rfl, ho10, hg10⟩
      have T9 := hid_mk (H9.out.1.kept hg10)
      have T10 := hid_mk ho10.byt
      have G10 := hid_mk (show w.grownBy w10 none from grown_trans G0.out (grown_trans G8.out (grown_trans H9.out.2 hg10)))
      clear ho10 hg10 H9
      generalize hn9 : (srvL l).length = n9 at *
      generalize hn10 : (srvL m).length = n10 at *
      generalize hel : srvErr l = el at *
      generalize hem : srvErr m = em at *
      have HEE := hid_mk (And.intro hel hem)
      clear hn9 hn10 hel hem
      have HC : ∀ W, w10.grownBy W none → (convert 22 9 (.slice a9 n9 c9)).run Try.prog W = .ok (.string ⟨(srvL l).toArray⟩) W ∧ (convert 22 9 (.slice a10 n10 c10)).run Try.prog W = .ok (.string ⟨(srvL m).toArray⟩) W := fun W hW => ⟨(T9.out.kept hW).text, (T10.out.kept hW).text⟩
      go_upto_region 11 with fail
      cases hrl : rightS l with
      | false =>
        obtain rfl : el = 1 := by rw [← HEE.out.1]; exact (srvL_bad hrl).2
        clear hrl HEE
        refine wp_region_mix [(0, true), (1, true), (2, true), (3, true), (4, true), (5, true), (6, true), (7, true), (8, true), (9, true), (10, true), (11, true), (12, true), (13, true), (14, true), (15, true), (16, true), (17, true), (18, true), (19, true), (20, false), (21, true), (22, true)] (at0 w10 (fun W => w10.grownBy W none)) (by kernel_rfl) (by kernel_rfl) rfl (by kernel_rfl) (shut_at0 (drawn w10)) ⟨1, rfl⟩ ?_
        repeat (first
          | (refine mix_no1 rfl rfl (fun K hK => ?_); go_simp; refine hK _ _ ?_; clear hK K)
          | (refine mix_rd1 rfl rfl (fun K hK => ?_); apply Exists.intro; refine ⟨fun W hW => ?_, ?_⟩; (obtain ⟨f1, f2⟩ := HC W hW; go_simp; rfl); (go_simp; refine hK _ _ ?_; clear hK K))
          | (refine mix_rdcall rfl rfl 5 #[.int .i64 1] (.int .i64 1) (fun W => ?_) (fun W hW => (num_any 1 W).mono (fun e w' ⟨h1, h2⟩ => ⟨h1, 0, h2⟩)) ?_; focus (go_simp; done)))
        refine mix_call rfl rfl 11 #[] (fun W => by go_simp) ?_
        rintro W ⟨m11, rfl⟩
        refine (knows_any (w10.drewN m11)).mono ?_
        rintro e w11 ⟨rfl, hg11⟩
        have G11 := hid_mk (grown_trans (drawn w10 m11) hg11)
        clear hg11
        refine ⟨_, rfl, at0 w11 (fun W => w11.grownBy W none), ⟨0, rfl⟩, shut_at0 (drawn w11), fun _ h => grown_trans G11.out h, ?_⟩
        repeat (first
          | (refine mix_no1 rfl rfl (fun K hK => ?_); go_simp; refine hK _ _ ?_; clear hK K)
          | (refine mix_rd1 rfl rfl (fun K hK => ?_); apply Exists.intro; refine ⟨fun W hW => ?_, ?_⟩; ( go_simp; rfl); (go_simp; refine hK _ _ ?_; clear hK K)))
        refine mix_nil ?_
        rintro W ⟨mz, rfl⟩
        go_wp2_with fail
        go_ret
        exact ⟨rfl, grown_trans G10.out (grown_trans G11.out (drawn w11 mz))⟩
      | true =>
        obtain rfl : el = 0 := by rw [← HEE.out.1]; exact (srvL_ok hrl).2
        cases hrm : rightS m with
        | false =>
          obtain rfl : em = 1 := by rw [← HEE.out.2]; exact (srvL_bad hrm).2
          clear hrl hrm HEE
          refine wp_region_mix [(0, true), (1, true), (2, true), (3, true), (4, true), (5, true), (6, true), (7, true), (8, true), (9, true), (10, true), (11, true), (12, true), (13, true), (14, true), (15, true), (16, true), (17, true), (18, true), (19, true), (20, false), (21, true), (22, true)] (at0 w10 (fun W => w10.grownBy W none)) (by kernel_rfl) (by kernel_rfl) rfl (by kernel_rfl) (shut_at0 (drawn w10)) ⟨1, rfl⟩ ?_
          repeat (first
            | (refine mix_no1 rfl rfl (fun K hK => ?_); go_simp; refine hK _ _ ?_; clear hK K)
            | (refine mix_rd1 rfl rfl (fun K hK => ?_); apply Exists.intro; refine ⟨fun W hW => ?_, ?_⟩; (obtain ⟨f1, f2⟩ := HC W hW; go_simp; rfl); (go_simp; refine hK _ _ ?_; clear hK K))
            | (refine mix_rdcall rfl rfl 5 #[.int .i64 0] (.int .i64 0) (fun W => ?_) (fun W hW => (num_any 0 W).mono (fun e w' ⟨h1, h2⟩ => ⟨h1, 0, h2⟩)) ?_; focus (go_simp; done))
            | (refine mix_rdcall rfl rfl 5 #[.int .i64 1] (.int .i64 1) (fun W => ?_) (fun W hW => (num_any 1 W).mono (fun e w' ⟨h1, h2⟩ => ⟨h1, 0, h2⟩)) ?_; focus (go_simp; done)))
          refine mix_call rfl rfl 11 #[] (fun W => by go_simp) ?_
          rintro W ⟨m11, rfl⟩
          refine (knows_any (w10.drewN m11)).mono ?_
          rintro e w11 ⟨rfl, hg11⟩
          have G11 := hid_mk (grown_trans (drawn w10 m11) hg11)
          clear hg11
          refine ⟨_, rfl, at0 w11 (fun W => w11.grownBy W none), ⟨0, rfl⟩, shut_at0 (drawn w11), fun _ h => grown_trans G11.out h, ?_⟩
          repeat (first
            | (refine mix_no1 rfl rfl (fun K hK => ?_); go_simp; refine hK _ _ ?_; clear hK K)
            | (refine mix_rd1 rfl rfl (fun K hK => ?_); apply Exists.intro; refine ⟨fun W hW => ?_, ?_⟩; ( go_simp; rfl); (go_simp; refine hK _ _ ?_; clear hK K)))
          refine mix_nil ?_
          rintro W ⟨mz, rfl⟩
          go_wp2_with fail
          go_ret
          exact ⟨rfl, grown_trans G10.out (grown_trans G11.out (drawn w11 mz))⟩
        | true =>
          obtain rfl : em = 0 := by rw [← HEE.out.2]; exact (srvL_ok hrm).2
          by_cases hlm : l = m
          · subst hlm
            clear hrl hrm HEE
            refine wp_region_mix [(0, true), (1, true), (2, true), (3, true), (4, true), (5, true), (6, true), (7, true), (8, true), (9, true), (10, true), (11, true), (12, true), (13, true), (14, true), (15, true), (16, true), (17, true), (18, true), (19, true), (20, false), (21, true), (22, true)] (at0 w10 (fun W => w10.grownBy W none)) (by kernel_rfl) (by kernel_rfl) rfl (by kernel_rfl) (shut_at0 (drawn w10)) ⟨1, rfl⟩ ?_
            repeat (first
              | (refine mix_no1 rfl rfl (fun K hK => ?_); go_simp; refine hK _ _ ?_; clear hK K)
              | (refine mix_rd1 rfl rfl (fun K hK => ?_); apply Exists.intro; refine ⟨fun W hW => ?_, ?_⟩; (obtain ⟨f1, f2⟩ := HC W hW; go_simp; rfl); (go_simp; refine hK _ _ ?_; clear hK K))
              | (refine mix_rdcall rfl rfl 5 #[.int .i64 0] (.int .i64 0) (fun W => ?_) (fun W hW => (num_any 0 W).mono (fun e w' ⟨h1, h2⟩ => ⟨h1, 0, h2⟩)) ?_; focus (go_simp; done))
              | (refine mix_rdcall rfl rfl 10 #[.slice la l.length lc, .slice ma l.length mc] (.bool true) (fun W => ?_) (fun W hW => ints_same _ _ l W (HL.out.kept (grown_trans G10.out hW)) (HM.out.kept (grown_trans G10.out hW)) hll) ?_; focus (go_simp; done)))
            refine mix_call rfl rfl 11 #[] (fun W => by go_simp) ?_
            rintro W ⟨m11, rfl⟩
            refine (knows_any (w10.drewN m11)).mono ?_
            rintro e w11 ⟨rfl, hg11⟩
            have G11 := hid_mk (grown_trans (drawn w10 m11) hg11)
            clear hg11
            refine ⟨_, rfl, at0 w11 (fun W => w11.grownBy W none), ⟨0, rfl⟩, shut_at0 (drawn w11), fun _ h => grown_trans G11.out h, ?_⟩
            repeat (first
              | (refine mix_no1 rfl rfl (fun K hK => ?_); go_simp; refine hK _ _ ?_; clear hK K)
              | (refine mix_rd1 rfl rfl (fun K hK => ?_); apply Exists.intro; refine ⟨fun W hW => ?_, ?_⟩; ( go_simp; rfl); (go_simp; refine hK _ _ ?_; clear hK K)))
            refine mix_nil ?_
            rintro W ⟨mz, rfl⟩
            go_wp2_with fail
            go_ret
            exact ⟨rfl, grown_trans G10.out (grown_trans G11.out (drawn w11 mz))⟩
          · have hs := bytes_ne (srvL_ne hrl hrm hlm)
            have HLM := hid_mk hlm
            clear hrl hrm HEE hlm
            generalize (⟨(srvL l).toArray⟩ : ByteArray) = s1 at *
            generalize (⟨(srvL m).toArray⟩ : ByteArray) = s2 at *
            refine wp_region_mix [(0, true), (1, true), (2, true), (3, true), (4, true), (5, true), (6, true), (7, true), (8, true), (9, true), (10, true), (11, true), (12, true), (13, true), (14, true), (15, true), (16, true), (17, true), (18, true), (19, true), (20, false), (21, true), (22, true)] (at0 w10 (fun W => w10.grownBy W none)) (by kernel_rfl) (by kernel_rfl) rfl (by kernel_rfl) (shut_at0 (drawn w10)) ⟨1, rfl⟩ ?_
            repeat (first
              | (refine mix_no1 rfl rfl (fun K hK => ?_); go_simp; refine hK _ _ ?_; clear hK K)
              | (refine mix_rd1 rfl rfl (fun K hK => ?_); apply Exists.intro; refine ⟨fun W hW => ?_, ?_⟩; (obtain ⟨f1, f2⟩ := HC W hW; go_simp; rfl); (go_simp; refine hK _ _ ?_; clear hK K))
              | (refine mix_rdcall rfl rfl 5 #[.int .i64 0] (.int .i64 0) (fun W => ?_) (fun W hW => (num_any 0 W).mono (fun e w' ⟨h1, h2⟩ => ⟨h1, 0, h2⟩)) ?_; focus (go_simp; done))
              | (refine mix_rdcall rfl rfl 10 #[.slice la l.length lc, .slice ma m.length mc] (.bool false) (fun W => ?_) (fun W hW => ints_no _ _ l m W (HL.out.kept (grown_trans G10.out hW)) (HM.out.kept (grown_trans G10.out hW)) hll hml HLM.out) ?_; focus (go_simp; done)))
            refine mix_call rfl rfl 11 #[] (fun W => by go_simp) ?_
            rintro W ⟨m11, rfl⟩
            refine (knows_any (w10.drewN m11)).mono ?_
            rintro e w11 ⟨rfl, hg11⟩
            have G11 := hid_mk (grown_trans (drawn w10 m11) hg11)
            clear hg11
            refine ⟨_, rfl, at0 w11 (fun W => w11.grownBy W none), ⟨0, rfl⟩, shut_at0 (drawn w11), fun _ h => grown_trans G11.out h, ?_⟩
            repeat (first
              | (refine mix_no1 rfl rfl (fun K hK => ?_); go_simp; refine hK _ _ ?_; clear hK K)
              | (refine mix_rd1 rfl rfl (fun K hK => ?_); apply Exists.intro; refine ⟨fun W hW => ?_, ?_⟩; ( go_simp; rfl); (go_simp; refine hK _ _ ?_; clear hK K)))
            refine mix_nil ?_
            rintro W ⟨mz, rfl⟩
            go_wp2_with fail
            go_ret
            exact ⟨rfl, grown_trans G10.out (grown_trans G11.out (drawn w11 mz))⟩
    
end Go.Proofs.Ytppnmhdmpgdieab
