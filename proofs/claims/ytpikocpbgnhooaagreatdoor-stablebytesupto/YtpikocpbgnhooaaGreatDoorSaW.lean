/- StableBytes: the walk. -/
import Derived.Test.YtpikocpbgnhooaaGreatDoorSaB
namespace Go.Proofs.YtpikocpbgnhooaaGreatDoor.V
set_option maxRecDepth 100000
open Go.RowKit Go.Maps Go.WideMaps Go.WideElems
set_option linter.unusedVariables false
set_option linter.unusedSimpArgs false

theorem text_same (l : List UInt8) : (l == (⟨l.toArray⟩ : ByteArray).toList) = true := by simp [go_sem]

set_option maxHeartbeats 8000000 in
theorem stableBytes_walk (t f : Int) (v : Value) (bs : List UInt8) (w : World) (h : W.Byt w v bs) (ht : F.Tab w) (hl : bs.length ≤ 100000000) : Calls Tryz.prog 3 #[.agg #[.int .i64 t, .int .i64 f], v] w fun e w' => e = .returned (.bool true) ∧ w.grownBy w' none := by
  obtain ⟨av, cv, rfl⟩ := h.len
  have HB := hid_mk h
  have HT := hid_mk ht
  clear h ht
  have HG : Hid (UB (w.alloc (.cells #[.int .i64 t, .int .i64 f] 23)) w.heap.size t f ∧ w.grownBy (w.alloc (.cells #[.int .i64 t, .int .i64 f] 23)) none) := hid_mk ⟨heap_alloc_new _ _, World.grownBy_alloc _ _ _⟩
  go_enter Tryz.func3, Tryz.ntmps3
  go_wp2_with fail
  generalize (w.alloc (.cells #[.int .i64 t, .int .i64 f] 23)) = w0 at *
  refine (F.lent_any _ bs w0 (HB.out.kept HG.out.2) (by omega)).mono ?_
  rintro e w1 ⟨g, cap, rfl, ho1, hg1⟩
  have H1 := hid_mk (show F.Own w1 w0.heap.size (.slice (some ⟨g, 0, none⟩) (bs.length + 2) cap) (bs ++ [201, 202]) ∧ UB w1 w.heap.size t f ∧ w.grownBy w1 none from ⟨ho1, Blk.kept HG.out.1 hg1 (by simp), grown_trans HG.out.2 hg1⟩)
  clear ho1 hg1 HG
  obtain ⟨c0, c1, _⟩ := H1.out.2.1.all
  go_wp2_with fail
  clear c0 c1
  refine (put_any t f w1 (HT.out.kept H1.out.2.2)).mono ?_
  rintro e w2 ⟨a2, k2, rfl, ho2, hg2⟩
  have H2 := hid_mk (show UB w2 w.heap.size t f ∧ w.grownBy w2 none ∧ w1.grownBy w2 none from ⟨Blk.kept H1.out.2.1 hg2 (by simp), grown_trans H1.out.2.2 hg2, hg2⟩)
  have Y2 := hid_mk ho2.byt
  clear ho2 hg2
  obtain ⟨c0, c1, _⟩ := H2.out.1.all
  go_wp2_with fail
  clear c0 c1
  refine (rput_any t f w2).mono ?_
  rintro e w3 ⟨a3, k3, rfl, ho3, hg3⟩
  have H3 := hid_mk (show w.grownBy w3 none ∧ w1.grownBy w3 none from ⟨grown_trans H2.out.2.1 hg3, grown_trans H2.out.2.2 hg3⟩)
  have Y3 := hid_mk ho3.byt
  have Y2' := hid_mk (Y2.out.kept hg3)
  clear ho3 hg3 Y2 H2
  obtain ⟨L, hL⟩ : ∃ L, voteL t f = L := ⟨_, rfl⟩
  obtain ⟨er, her⟩ : ∃ n, voteE t f = n := ⟨_, rfl⟩
  rw [hL] at Y2' Y3
  rw [hL, her]
  clear hL her
  go_wp2_with fail
  have HL1 := hid_mk (F.lent_byt (F.Own.kept H1.out.1 H3.out.2 (.inl rfl)))
  refine (get_any _ bs w3 HL1.out.1 (HT.out.kept H3.out.1) hl).mono ?_
  rintro e w4 ⟨rfl, hg4⟩
  obtain ⟨xt, xf, xe, hq⟩ : ∃ a b c, gV bs = (a, b, c) := ⟨_, _, _, rfl⟩
  have HQ := hid_mk hq
  rw [hq]
  clear hq
  have H4 : Hid (VB (w4.alloc (.cells #[.int .i64 xt, .int .i64 xf] 29)) w4.heap.size xt xf ∧ w3.grownBy (w4.alloc (.cells #[.int .i64 xt, .int .i64 xf] 29)) none) := hid_mk ⟨heap_alloc_new _ _, grown_trans hg4 (World.grownBy_alloc _ _ none)⟩
  clear hg4
  go_upto_region 5 with fail
  generalize (w4.alloc (.cells #[.int .i64 xt, .int .i64 xf] 29)) = w5 at *
  generalize w4.heap.size = xb at *
  go_wp2_with fail
  refine (rget_any _ bs w5 (HB.out.kept (grown_trans H3.out.1 H4.out.2)) hl).mono ?_
  rintro e w6 ⟨rfl, hg6⟩
  rw [HQ.out]
  have H6 : Hid (UB (w6.alloc (.cells #[.int .i64 xt, .int .i64 xf] 23)) w6.heap.size xt xf ∧ VB (w6.alloc (.cells #[.int .i64 xt, .int .i64 xf] 23)) xb xt xf ∧ w3.grownBy (w6.alloc (.cells #[.int .i64 xt, .int .i64 xf] 23)) none) := hid_mk ⟨heap_alloc_new _ _, Blk.kept H4.out.1 (grown_trans hg6 (World.grownBy_alloc _ _ none)) (by simp), grown_trans H4.out.2 (grown_trans hg6 (World.grownBy_alloc _ _ none))⟩
  clear hg6 H4
  go_upto_region 6 with fail
  generalize (w6.alloc (.cells #[.int .i64 xt, .int .i64 xf] 23)) = w7 at *
  generalize w6.heap.size = yb at *
  have HG7 := hid_mk (grown_trans H3.out.1 H6.out.2.2)
  obtain ⟨x0, x1, _⟩ := H6.out.2.1.all
  obtain ⟨y0, y1, _⟩ := H6.out.1.all
  have t2 := (Y2'.out.kept H6.out.2.2).text
  have t3 := (Y3.out.kept H6.out.2.2).text
  have tq := text_same L
  have HST := hid_mk (F.stays_any w0.heap.size g cap bs (.slice av bs.length cv) w7 (F.Own.kept (F.Own.kept H1.out.1 H3.out.2 (.inl rfl)) H6.out.2.2 (.inl rfl)) (HB.out.kept HG7.out) (by omega))
  by_cases hx : xe = 0
  · subst hx
    obtain ⟨hM, hV⟩ := gV_get HQ.out
    have HMV := hid_mk (And.intro hM hV)
    clear hM hV HQ
    go_wp2_with (first
      | (go_at_call 11; refine (num_any er _).mono ?_; rintro e w' ⟨rfl, hw⟩; rw [hw]; clear hw)
      | (go_at_call 12; refine HST.out.mono ?_; rintro e w8 ⟨rfl, hg8⟩; have HG8 := hid_mk hg8; have z0 := hg8.cell x0 (by simp); have z1 := hg8.cell x1 (by simp); clear hg8 x0 x1 y0 y1 t2 t3 tq)
      | (go_at_call 11; refine (num_any 0 _).mono ?_; rintro e w' ⟨rfl, hw⟩; rw [hw]; clear hw))
    clear z0 z1
    have hp := put_any xt xf w8 (HT.out.kept (grown_trans HG7.out HG8.out))
    rw [(voteL_ok HMV.out.1).1, (voteL_ok HMV.out.1).2, HMV.out.2] at hp
    refine hp.mono ?_
    clear hp
    rintro e w9 ⟨a9, k9, rfl, ho9, hg9⟩
    have HG9 := hid_mk (grown_trans HG7.out (grown_trans HG8.out hg9))
    have t9 := ho9.byt.text
    have tb := (HB.out.kept HG9.out).text
    have tq := text_same bs
    have HK := hid_mk (knows_any w9 (HT.out.kept HG9.out))
    clear ho9 hg9
    go_wp2_with (first
      | (go_at_call 11; refine (num_any 0 _).mono ?_; rintro e w' ⟨rfl, hw⟩; rw [hw]; clear hw)
      | (go_at_call 13; refine HK.out.mono ?_; rintro e wA ⟨rfl, hgA⟩; have HGA := hid_mk hgA; clear hgA))
    go_ret
    exact ⟨rfl, grown_trans HG9.out HGA.out⟩
  · have hxb : (xe == 0) = false := by simp [hx]
    clear HQ
    go_wp2_with (first
      | (go_at_call 11; refine (num_any er _).mono ?_; rintro e w' ⟨rfl, hw⟩; rw [hw]; clear hw)
      | (go_at_call 11; refine (num_any xe _).mono ?_; rintro e w' ⟨rfl, hw⟩; rw [hw]; clear hw)
      | (go_at_call 12; refine HST.out.mono ?_; rintro e w8 ⟨rfl, hg8⟩; have HG8 := hid_mk hg8; clear hg8 x0 x1 y0 y1 t2 t3 tq)
      | (go_at_call 13; refine (knows_any w8 (HT.out.kept (grown_trans HG7.out HG8.out))).mono ?_; rintro e wA ⟨rfl, hgA⟩; have HGA := hid_mk hgA; clear hgA))
    go_ret
    exact ⟨rfl, grown_trans HG7.out (grown_trans HG8.out HGA.out)⟩

end Go.Proofs.YtpikocpbgnhooaaGreatDoor.V
