/- StableLoads: the walk. -/
import Derived.Test.YtpikocpbgnhooaaGreatDoorSaB
namespace Go.Proofs.YtpikocpbgnhooaaGreatDoor.V
set_option maxRecDepth 100000
open Go.RowKit Go.Maps Go.WideMaps Go.WideElems
set_option linter.unusedVariables false
set_option linter.unusedSimpArgs false

theorem byt_src {w : World} {v : Value} {l : List UInt8} (h : W.Byt w v l) : SrcB w v l := by
  rcases h with ⟨rfl, a, cap, rfl, hn⟩ | ⟨b, off, cap, rfl, _, hc⟩
  · cases a with
    | none => obtain rfl := hn rfl; exact .inl ⟨rfl, rfl⟩
    | some a => exact .inr ⟨a, cap, rfl, fun j u hj => by simp [u8s] at hj⟩
  · refine .inr ⟨_, cap, rfl, fun j u hj => ?_⟩
    simp only [u8s, List.getElem?_map, Option.map_eq_some_iff] at hj
    obtain ⟨c, hc', rfl⟩ := hj
    have := hc j c hc'
    rw [← this]; congr 1; unfold Addr.add; split <;> simp_all

set_option maxHeartbeats 8000000 in
theorem stableLoads_walk (v : Value) (bs : List UInt8) (th : Bool) (w : World) (h : W.Byt w v bs) (ht : F.Tab w) (hl : bs.length ≤ 140737488355328) : Calls Tryz.prog 4 #[v, .bool th] w fun e w' => e = .returned (.bool true) ∧ w.grownBy w' none := by
  obtain ⟨av, cv, rfl⟩ := h.len
  have HB := hid_mk h
  have HT := hid_mk ht
  clear h ht
  go_enter Tryz.func4, Tryz.ntmps4
  go_wp2_with fail
  refine (disk_any w).mono ?_
  rintro e w1 ⟨b, m, rfl, hI, hF, hfu, hg⟩
  have H1 := hid_mk (And.intro hI (And.intro hF (And.intro hfu hg)))
  clear hI hF hfu hg
  by_cases h9 : 900 < bs.length
  · have h9I : (900 : Int) < (bs.length : Int) := by omega
    go_wp2_with (go_at_call 13; refine (knows_any w1 (HT.out.kept H1.out.2.2.2)).mono ?_; rintro e w2 ⟨rfl, hg2⟩; have HG2 := hid_mk hg2; clear hg2)
    go_ret
    exact ⟨rfl, grown_trans H1.out.2.2.2 HG2.out⟩
  · have h9I : ¬ (900 : Int) < (bs.length : Int) := by omega
    go_wp2_with fail
    refine (knows_any w1 (HT.out.kept H1.out.2.2.2)).mono ?_
    rintro e w2 ⟨rfl, hg2⟩
    have H2 := hid_mk (show IsDisk w2 (fun k => w.heap.size ≤ k) 0 b m ∧ w.grownBy w2 none from ⟨H1.out.1.kept_none hg2, grown_trans H1.out.2.2.2 hg2⟩)
    clear hg2
    cases th with
    | false =>
      go_wp2_with fail
      refine (load_fine w2 (HT.out.kept H2.out.2) 0 b _ m H2.out.1 none none H1.out.2.1).mono ?_
      rintro e w3 ⟨rfl, hg3⟩
      simp only [toldV]
      have H4 : Hid (VB (w3.alloc (.cells #[.int .i64 0, .int .i64 (-1)] 29)) w3.heap.size 0 (-1) ∧ w.grownBy (w3.alloc (.cells #[.int .i64 0, .int .i64 (-1)] 29)) none) := hid_mk ⟨heap_alloc_new _ _, grown_trans (grown_trans H2.out.2 hg3) (World.grownBy_alloc _ _ none)⟩
      clear hg3
      go_upto_region 7 with fail
      generalize (w3.alloc (.cells #[.int .i64 0, .int .i64 (-1)] 29)) = w4 at *
      generalize w3.heap.size = xb at *
      go_wp2_with fail
      refine (rget_any _ bs w4 (HB.out.kept H4.out.2) (by omega)).mono ?_
      rintro e w5 ⟨rfl, hg5⟩
      obtain ⟨xt, xf, xe, hq⟩ : ∃ a b c, gV bs = (a, b, c) := ⟨_, _, _, rfl⟩
      rw [hq]
      clear hq
      have H6 : Hid (UB (w5.alloc (.cells #[.int .i64 xt, .int .i64 xf] 23)) w5.heap.size xt xf ∧ VB (w5.alloc (.cells #[.int .i64 xt, .int .i64 xf] 23)) xb 0 (-1) ∧ w.grownBy (w5.alloc (.cells #[.int .i64 xt, .int .i64 xf] 23)) none ∧ w.heap.size ≤ w5.heap.size ∧ xb ≠ w5.heap.size) := hid_mk (by
        have hg := grown_trans hg5 (World.grownBy_alloc w5 (.cells #[.int .i64 xt, .int .i64 xf] 23) none)
        have := H4.out.1.lt
        have := hg5.size
        exact ⟨heap_alloc_new _ _, Blk.kept H4.out.1 hg (by simp), grown_trans H4.out.2 hg, (grown_trans H4.out.2 hg5).size, by omega⟩)
      clear hg5 H4
      go_upto_region 8 with fail
      generalize (w5.alloc (.cells #[.int .i64 xt, .int .i64 xf] 23)) = w6 at *
      generalize w5.heap.size = yb at *
      obtain ⟨y0, y1, yf⟩ := H6.out.1.all
      have H7 : Hid (UB ((w6.setCell ⟨yb, 0, none⟩ (.int .i64 0)).setCell ⟨yb, 1, none⟩ (.int .i64 (-1))) yb 0 (-1) ∧ VB ((w6.setCell ⟨yb, 0, none⟩ (.int .i64 0)).setCell ⟨yb, 1, none⟩ (.int .i64 (-1))) xb 0 (-1) ∧ w.grownBy ((w6.setCell ⟨yb, 0, none⟩ (.int .i64 0)).setCell ⟨yb, 1, none⟩ (.int .i64 (-1))) none) := hid_mk (by
        have hg : w6.grownBy ((w6.setCell ⟨yb, 0, none⟩ (.int .i64 0)).setCell ⟨yb, 1, none⟩ (.int .i64 (-1))) (some yb) := grown_trans (grown_setCell _ _ _ _) (grown_setCell _ _ _ _)
        exact ⟨H6.out.1.laid 0 (-1), Blk.kept H6.out.2.1 hg (by simpa using H6.out.2.2.2.2), W.grown_new H6.out.2.2.1 hg H6.out.2.2.2.1⟩)
      go_upto_region 10 with fail
      generalize ((w6.setCell ⟨yb, 0, none⟩ (.int .i64 0)).setCell ⟨yb, 1, none⟩ (.int .i64 (-1))) = w7 at *
      clear y0 y1 yf H6
      obtain ⟨y0, y1, _⟩ := H7.out.1.all
      obtain ⟨x0, x1, _⟩ := H7.out.2.1.all
      go_wp2_with (go_at_call 11; refine (num_any 0 _).mono ?_; rintro e w' ⟨rfl, hw⟩; rw [hw]; clear hw)
      go_ret
      exact ⟨rfl, H7.out.2.2⟩
    | true =>
      obtain ⟨a0, hn0, hsy0, hv0, _⟩ := H1.out.2.1.there
      have ha0 : a0 = none := hv0
      rw [ha0] at hn0
      have HN := hid_mk hn0
      clear hn0 hsy0 hv0 ha0
      go_wp2_with fail
      refine (create_any 0 b _ m nmV w2 H2.out.1 (by omega) size_V).mono ?_
      rintro e w3 ⟨n, m3, rfl, hS, hI3, hk3⟩
      obtain ⟨rfl, f, cv1, cv2, hfr, hm3⟩ := hS.ok right_V (by rw [HN.out, dir_V]) (by rw [HN.out]; have := dir_size none none; omega) H1.out.2.1.gone (by rw [H1.out.2.2.1]; decide)
      have H3 := hid_mk (show IsDisk w3 (fun k => w.heap.size ≤ k) 1 b m3 ∧ w.grownBy w3 none ∧ m3.names = dirOf (some f) none ∧ m3.files f = some ⟨.slice none 0 0, [], 0⟩ ∧ m3.quota = 1000 ∧ m3.gone = false ∧ m3.fuse = -1 by
        refine ⟨hI3.here H2.out.2.size, ((Keeps.of_none H2.out.2).step hk3).grown, ?_, ?_, ?_, ?_, ?_⟩
        · rw [hm3]; show m.names.put _ _ = _; rw [HN.out, dir_putV]
        · rw [hm3]; exact upd_same _ _ _
        · rw [hm3]; exact H1.out.2.1.quota
        · rw [hm3]; exact H1.out.2.1.gone
        · rw [hm3]; exact spent_neg H1.out.2.2.1)
      clear hS hI3 hk3 hm3 hfr HN H2
      go_wp2_with (go_at_call 11; refine (num_any 0 _).mono ?_; rintro e w' ⟨rfl, hw⟩; rw [hw]; clear hw)
      refine (append_any 1 b _ m3 nmV bs _ w3 H3.out.1 (by omega) size_V (by omega) (byt_src (HB.out.kept H3.out.2.1))).mono ?_
      rintro e w4 ⟨n, m4, rfl, hS, hI4, hk4⟩
      have hf3 : fileAt m3.names (key nmV) = some f := by rw [H3.out.2.2.1, dir_V]
      obtain ⟨rfl, fv, hm4⟩ := hS.ok right_V hf3 H3.out.2.2.2.1 (by rw [H3.out.2.2.1, dir_total, H3.out.2.2.2.2.1]; simp [lenO, lenOf, H3.out.2.2.2.1]; omega) H3.out.2.2.2.2.2.1 (by rw [H3.out.2.2.2.2.2.2]; decide)
      have H4 := hid_mk (show IsDisk w4 (fun k => w.heap.size ≤ k) 2 b m4 ∧ w.grownBy w4 none ∧ fileAt m4.names (key nmV) = some f ∧ m4.files f = some ⟨fv, bs, 0⟩ by
        refine ⟨hI4.here H3.out.2.1.size, ((Keeps.of_none H3.out.2.1).step hk4).grown, ?_, ?_⟩
        · rw [hm4]; exact hf3
        · rw [hm4]; show upd _ _ _ _ = _; rw [upd_same]; rfl)
      clear hS hI4 hk4 hm4 hf3 H3
      go_wp2_with (go_at_call 11; refine (num_any 0 _).mono ?_; rintro e w' ⟨rfl, hw⟩; rw [hw]; clear hw)
      refine (load_file w4 (HT.out.kept H4.out.2.1) 2 b _ m4 H4.out.1 f ⟨fv, bs, 0⟩ H4.out.2.2.1 H4.out.2.2.2).mono ?_
      rintro e w5 ⟨rfl, hg5⟩
      obtain ⟨xt, xf, xe, hq⟩ : ∃ a b c, gV bs = (a, b, c) := ⟨_, _, _, rfl⟩
      have HQ := hid_mk hq
      dsimp only
      rw [hq]
      clear hq
      have H5 : Hid (VB (w5.alloc (.cells #[.int .i64 xt, .int .i64 xf] 29)) w5.heap.size xt xf ∧ w.grownBy (w5.alloc (.cells #[.int .i64 xt, .int .i64 xf] 29)) none) := hid_mk ⟨heap_alloc_new _ _, grown_trans (grown_trans H4.out.2.1 hg5) (World.grownBy_alloc _ _ none)⟩
      clear hg5
      go_upto_region 7 with fail
      generalize (w5.alloc (.cells #[.int .i64 xt, .int .i64 xf] 29)) = w6 at *
      generalize w5.heap.size = xb at *
      go_wp2_with fail
      refine (rget_any _ bs w6 (HB.out.kept H5.out.2) (by omega)).mono ?_
      rintro e w7 ⟨rfl, hg7⟩
      rw [HQ.out]
      have H8 : Hid (UB (w7.alloc (.cells #[.int .i64 xt, .int .i64 xf] 23)) w7.heap.size xt xf ∧ VB (w7.alloc (.cells #[.int .i64 xt, .int .i64 xf] 23)) xb xt xf ∧ w.grownBy (w7.alloc (.cells #[.int .i64 xt, .int .i64 xf] 23)) none) := hid_mk (by
        have hg := grown_trans hg7 (World.grownBy_alloc w7 (.cells #[.int .i64 xt, .int .i64 xf] 23) none)
        exact ⟨heap_alloc_new _ _, Blk.kept H5.out.1 hg (by simp), grown_trans H5.out.2 hg⟩)
      clear hg7 H5
      go_upto_region 8 with fail
      generalize (w7.alloc (.cells #[.int .i64 xt, .int .i64 xf] 23)) = w8 at *
      generalize w7.heap.size = yb at *
      obtain ⟨y0, y1, _⟩ := H8.out.1.all
      obtain ⟨x0, x1, _⟩ := H8.out.2.1.all
      go_wp2_with (go_at_call 11; refine (num_any xe _).mono ?_; rintro e w' ⟨rfl, hw⟩; rw [hw]; clear hw)
      go_ret
      refine ⟨?_, H8.out.2.2⟩
      simp

end Go.Proofs.YtpikocpbgnhooaaGreatDoor.V
