/- SnapsNil: the walk. -/
import Derived.Test.YtmlppjmpoanlkaaGreatDoorSnZ
namespace Go.Proofs.YtmlppjmpoanlkaaGreatDoor.W
open Go.RowKit Go.Maps Go.Shelf
set_option linter.unusedVariables false
set_option linter.unusedSimpArgs false
set_option maxRecDepth 100000

theorem mayS_small (i : Int) (d : UInt8) (h1 : 1 ≤ i) (h2 : i ≤ 20) : mayS ⟨i, 1, [0], [d]⟩ = true := by
  refine mayS_iff.2 ⟨show rightS [0] = true by decide, inB_iff.2 ⟨h1, ?_, show (1 : Int) ≤ 1 by decide, show (1 : Int) < 1099511627776 by decide, Nat.succ_le_succ (Nat.zero_le _)⟩⟩
  show i ≤ 1099511627775
  omega
theorem idx20 (n : Int) : (-20 < n.tmod 20 ∧ n.tmod 20 < 20) ∧ 0 ≤ (n.tmod 20 + 20).tmod 20 ∧ (n.tmod 20 + 20).tmod 20 < 20 := by
  have h1 : -20 < n.tmod 20 := by
    have := Int.lt_tmod_of_pos n (show (0:Int) < 20 by decide)
    omega
  have h3 := Int.tmod_lt_of_pos n (show (0:Int) < 20 by decide)
  have h2 : 0 ≤ n.tmod 20 + 20 := by omega
  rw [Int.tmod_eq_emod_of_nonneg h2]
  omega

set_option maxHeartbeats 8000000 in
theorem snapsNil_walk (x : Snap) (sv dv : Value) (n : Int) (w : World) (ht : F.Tab w) (hp : Pw w) (hx : SnapAt w sv dv x) (hns : x.s.length ≤ 17592186044416) (hnd : x.d.length ≤ 140737488355328) : Calls Tryz.prog 4 #[snapV x sv dv, .int .i64 n] w fun e w' => e = .returned (.bool true) ∧ w.grownBy w' none := by
  obtain ⟨sa, sc, rfl⟩ := hx.s.len
  obtain ⟨da, dc, rfl⟩ := hx.d.len
  have HT := hid_mk (And.intro ht hp)
  have HA : Hid (V.Blk (w.alloc (.cells #[.int .i64 x.i, .int .i64 x.t, .slice sa x.s.length sc, .slice da x.d.length dc] 25)) w.heap.size #[.int .i64 x.i, .int .i64 x.t, .slice sa x.s.length sc, .slice da x.d.length dc] 25 ∧ w.grownBy (w.alloc (.cells #[.int .i64 x.i, .int .i64 x.t, .slice sa x.s.length sc, .slice da x.d.length dc] 25)) none) := hid_mk ⟨heap_alloc_new _ _, World.grownBy_alloc _ _ _⟩
  have HX := hid_mk hx
  clear ht hp hx
  unfold snapV
  go_enter Tryz.func4, Tryz.ntmps4
  go_wp2_with fail
  generalize (w.alloc (.cells #[.int .i64 x.i, .int .i64 x.t, .slice sa x.s.length sc, .slice da x.d.length dc] 25)) = w0 at *
  go_loopw [5, 6] (fun dv iv W1 => ∃ (k : Nat) (p : Option Addr), k ≤ 2 ∧ iv = .int .i64 k ∧ dv = .pointer p ∧ Hid (NoD W1 p) ∧ Hid (w0.grownBy W1 none)) (fun _ iv _ => 2 - (intOf iv).toNat)
  case atStart => exact ⟨0, none, by omega, rfl, rfl, hid_mk (.inl rfl), hid_mk (grown_refl _ _)⟩
  case round =>
    obtain ⟨k, p, hk, rfl, rfl, HN, G1⟩ := hrel
    rename World => w1
    by_cases hk2 : k < 2
    · go_wp2_with fail
      refine (load_no p w1 HN.out).mono ?_
      rintro e w2 ⟨rfl, hg2⟩
      have HG2 := hid_mk (grown_trans hg2 (World.grownBy_alloc w2 (.cells #[.int .i64 0, .int .i64 0, .slice none 0 0, .slice none 0 0] 27) none))
      clear hg2
      unfold zeroS
      go_upto_region 6 with fail
      generalize (w2.alloc (.cells #[.int .i64 0, .int .i64 0, .slice none 0 0, .slice none 0 0] 27)) = w3 at *
      have N3 := hid_mk (HN.out.kept HG2.out)
      have T3 := hid_mk (HT.out.1.kept (grown_trans HA.out.2 (grown_trans G1.out HG2.out)))
      go_wp2_with (go_at_call 13; refine (num_any _ _).mono ?_; rintro e w' ⟨rfl, hw⟩; rw [hw]; clear hw)
      refine (show Calls Tryz.prog 19 #[.int .i64 1, .int .u8 1] w3 _ from small_any 1 1 w3).mono ?_
      rintro e w4 ⟨sv4, dv4, rfl, hs4, hg4⟩
      have H4 := hid_mk (And.intro hs4 hg4)
      obtain ⟨a4, c4, rfl⟩ := hs4.s.len
      obtain ⟨a4', c4', rfl⟩ := hs4.d.len
      clear hs4 hg4
      unfold snapV
      go_wp2_with fail
      refine (save_no p ⟨1, 1, [0], [1]⟩ _ _ w4 (N3.out.kept H4.out.2) H4.out.1 (by decide) (T3.out.kept H4.out.2)).mono ?_
      rintro e w5 ⟨rfl, hg5⟩
      have H5 := hid_mk (grown_trans H4.out.2 hg5)
      clear hg5 H4
      go_wp2_with (go_at_call 13; refine (num_any _ _).mono ?_; rintro e w' ⟨rfl, hw⟩; rw [hw]; clear hw)
      refine (clean_no p w5 (N3.out.kept H5.out)).mono ?_
      rintro e w6 ⟨rfl, hg6⟩
      have H6 := hid_mk (grown_trans HG2.out (grown_trans H5.out hg6))
      clear hg6 H5
      go_wp2_with (go_at_call 13; refine (num_any _ _).mono ?_; rintro e w' ⟨rfl, hw⟩; rw [hw]; clear hw)
      refine ⟨⟨k + 1, _, by omega, by simp, rfl, hid_mk (.inr ⟨w6.heap.size, _, _, rfl, heap_alloc_new _ _, rfl⟩), hid_mk (grown_trans G1.out (grown_trans H6.out (World.grownBy_alloc _ _ none)))⟩, by simp [intOf]; omega⟩
    · obtain rfl : k = 2 := by omega
      clear hk hk2 HN
      go_wp2_with fail
      refine (disk_any w1).mono ?_
      rintro e w2 ⟨b, bn, bs, rfl, hd2, hg2⟩
      have H2 := hid_mk (show At7 w1 w2 0 b (mem0 bn bs) from ⟨hd2, V.Keeps.of_none hg2⟩)
      have K0 := hid_mk (Sk.new bn bs 64300)
      have T1 := hid_mk (And.intro (HT.out.1.kept (grown_trans HA.out.2 G1.out)) (HT.out.2.kept (grown_trans HA.out.2 G1.out)))
      clear hd2 hg2
      obtain ⟨⟨r1, r2⟩, r3, r4⟩ := idx20 n
      go_wp2_with fail
      have hj1 : 1 ≤ 1 + n.tmod 20 % 20 := by omega
      have hj2 : 1 + n.tmod 20 % 20 ≤ 20 := by omega
      clear r1 r2 r3 r4
      generalize 1 + n.tmod 20 % 20 = j at *
      refine (show Calls Tryz.prog 19 #[.int .i64 j, .int .u8 7] w2 _ from small_any j 7 w2).mono ?_
      rintro e w3 ⟨sv3, dv3, rfl, hs3, hg3⟩
      have H3 := hid_mk (And.intro (H2.out.quiet hg3) hs3)
      obtain ⟨a3, c3, rfl⟩ := hs3.s.len
      obtain ⟨a3', c3', rfl⟩ := hs3.d.len
      clear hg3 hs3 H2
      unfold snapV
      go_wp2_with fail
      refine (at_save H3.out.1 T1.out.1 T1.out.2 ⟨j, 1, [0], [7]⟩ _ _ K0.out H3.out.2 (by omega) (by omega) (fun h => snapB_len h) (by omega)).mono ?_
      rintro e w4 ⟨n4, m4, rfl, R4, A4⟩
      obtain ⟨rfl, ⟨f4, S4⟩, F4⟩ := saveR_ok R4 (mayS_small j 7 hj1 hj2) (show (0 : Int) < j by omega) rfl
      have H4 := hid_mk (And.intro A4 (And.intro S4 F4))
      have B4 := hid_mk (show V.Blk w4 w.heap.size #[.int .i64 x.i, .int .i64 x.t, .slice sa x.s.length sc, .slice da x.d.length dc] 25 ∧ SnapAt w4 (.slice sa x.s.length sc) (.slice da x.d.length dc) x from ⟨V.Blk.kept HA.out.1 (grown_trans G1.out A4.grown) (by simp), HX.out.kept (grown_trans HA.out.2 (grown_trans G1.out A4.grown))⟩)
      clear R4 A4 S4 F4 H3 K0
      have p0 : w4.cell? ⟨w.heap.size, 0, none⟩ = some (.int .i64 x.i) := by rw [B4.out.1.cell]; rfl
      have p1 : w4.cell? ⟨w.heap.size, 1, none⟩ = some (.int .i64 x.t) := by rw [B4.out.1.cell]; rfl
      have p2 : w4.cell? ⟨w.heap.size, 2, none⟩ = some (.slice sa x.s.length sc) := by rw [B4.out.1.cell]; rfl
      have p3 : w4.cell? ⟨w.heap.size, 3, none⟩ = some (.slice da x.d.length dc) := by rw [B4.out.1.cell]; rfl
      go_wp2_with (go_at_call 13; refine (num_any _ _).mono ?_; rintro e w' ⟨rfl, hw⟩; rw [hw]; clear hw)
      refine (show Calls Tryz.prog 8 #[snapV x (.slice sa x.s.length sc) (.slice da x.d.length dc)] w4 _ from own_any x _ _ w4 B4.out.2 hns hnd).mono ?_
      clear p0 p1 p2 p3
      rintro e w5 ⟨sv5, dv5, rfl, hs5, hg5⟩
      have H5 := hid_mk (And.intro (H4.out.1.quiet hg5) hs5)
      obtain ⟨a5, c5, rfl⟩ := hs5.s.len
      obtain ⟨a5', c5', rfl⟩ := hs5.d.len
      clear hg5 hs5
      unfold snapV
      go_wp2_with fail
      refine (at_save H5.out.1 T1.out.1 T1.out.2 x _ _ H4.out.2.1 H5.out.2 (by omega) (by omega) (fun h => snapB_len h) (by omega)).mono ?_
      rintro e w6 ⟨n6, m6, rfl, R6, A6⟩
      have HW : Hid (n6 = (if mayS x = true then (if x.i ≤ j then 36 else 0) else 1)) := hid_mk (by
        rcases R6 with ⟨h1, h2, _⟩ | ⟨h1, h2, h3, _⟩ | ⟨h1, h2, (⟨h3, _⟩ | ⟨_, _, h3⟩)⟩
        · rw [h1]; exact h2
        · have h2' : x.i ≤ j := h2
          rw [h1, if_pos rfl, if_pos h2']; exact h3
        · have h2' : j < x.i := h2
          rw [h1, if_pos rfl, if_neg (by omega)]; exact h3
        · exact absurd H4.out.2.2 h3)
      have H6 := hid_mk (show w.grownBy w6 none ∧ V.Blk w6 w.heap.size #[.int .i64 x.i, .int .i64 x.t, .slice sa x.s.length sc, .slice da x.d.length dc] 25 ∧ SnapAt w6 (.slice sa x.s.length sc) (.slice da x.d.length dc) x from ⟨grown_trans HA.out.2 (grown_trans G1.out A6.grown), V.Blk.kept HA.out.1 (grown_trans G1.out A6.grown) (by simp), HX.out.kept (grown_trans HA.out.2 (grown_trans G1.out A6.grown))⟩)
      clear R6 A6 H5 H4 B4 T1 G1
      have p0 : w6.cell? ⟨w.heap.size, 0, none⟩ = some (.int .i64 x.i) := by rw [H6.out.2.1.cell]; rfl
      have p1 : w6.cell? ⟨w.heap.size, 1, none⟩ = some (.int .i64 x.t) := by rw [H6.out.2.1.cell]; rfl
      have p2 : w6.cell? ⟨w.heap.size, 2, none⟩ = some (.slice sa x.s.length sc) := by rw [H6.out.2.1.cell]; rfl
      have p3 : w6.cell? ⟨w.heap.size, 3, none⟩ = some (.slice da x.d.length dc) := by rw [H6.out.2.1.cell]; rfl
      go_wp2_with (go_at_call 13; refine (num_any _ _).mono ?_; rintro e w' ⟨rfl, hw⟩; rw [hw]; clear hw)
      refine (show Calls Tryz.prog 22 #[snapV x (.slice sa x.s.length sc) (.slice da x.d.length dc)] w6 _ from right_doc x _ _ w6 H6.out.2.2 (by omega)).mono ?_
      clear p0 p1 p2 p3
      rintro e w7 ⟨rfl, hg7⟩
      have H7 := hid_mk (show w.grownBy w7 none ∧ V.Blk w7 w.heap.size #[.int .i64 x.i, .int .i64 x.t, .slice sa x.s.length sc, .slice da x.d.length dc] 25 from ⟨grown_trans H6.out.1 hg7, V.Blk.kept H6.out.2.1 hg7 (by simp)⟩)
      clear hg7 H6
      have p0 : w7.cell? ⟨w.heap.size, 0, none⟩ = some (.int .i64 x.i) := by rw [H7.out.2.cell]; rfl
      have HK := hid_mk (knows_any w7 (HT.out.1.kept H7.out.1) (HT.out.2.kept H7.out.1))
      cases hm : mayS x with
      | false =>
        have hn : n6 = 1 := by rw [HW.out, hm]; rfl
        clear hm HW
        go_wp2_with fail
        refine HK.out.mono ?_
        rintro e w8 ⟨rfl, hg8⟩
        have H8 := hid_mk (grown_trans H7.out.1 hg8)
        clear hg8
        go_wp2_with fail
        go_ret
        exact ⟨rfl, H8.out⟩
      | true =>
        by_cases hle : x.i ≤ j
        · have hn : n6 = 36 := by rw [HW.out, hm, if_pos rfl, if_pos hle]
          clear hm HW
          go_wp2_with fail
          refine HK.out.mono ?_
          rintro e w8 ⟨rfl, hg8⟩
          have H8 := hid_mk (grown_trans H7.out.1 hg8)
          clear hg8
          go_wp2_with fail
          go_ret
          exact ⟨rfl, H8.out⟩
        · have hn : n6 = 0 := by rw [HW.out, hm, if_pos rfl, if_neg hle]
          clear hm HW
          go_wp2_with fail
          refine HK.out.mono ?_
          rintro e w8 ⟨rfl, hg8⟩
          have H8 := hid_mk (grown_trans H7.out.1 hg8)
          clear hg8
          go_wp2_with fail
          go_ret
          exact ⟨rfl, H8.out⟩

end Go.Proofs.YtmlppjmpoanlkaaGreatDoor.W
